/-
  WALKS: the program's fault, May, MayDesc, MayState.
-/
import Derived.Test.YtncahpbjbgcnbaaGreatDoorEO6
namespace Go.Proofs.YtncahpbjbgcnbaaGreatDoor
open Go.RowKit
set_option maxRecDepth 100000
set_option linter.unusedVariables false

theorem fits_kindB {o : Ob} (h : fitsB o = true) : kindB o.kind = true := by
  unfold fitsB at h
  cases hk : kindB o.kind
  · rw [hk] at h; simp at h
  · rfl
/-- What the walks of fault want of an object, and of the world. -/
structure Meets (o : Ob) (w : World) : Prop where
  kind : o.kind ≤ 255
  typ : o.typ ≤ 255
  digits : o.digits ≤ 255
  assoc : o.assoc ≤ 255
  handle : o.handle.size ≤ maxLen
  parent : o.parent.size ≤ maxLen
  ref : o.ref.size ≤ maxLen
  words : Words w
  kinds : Kinds w
theorem Meets.then {o : Ob} {w W : World} (h : Meets o w) (k : Below w.heap.size w W) : Meets o W := ⟨h.kind, h.typ, h.digits, h.assoc, h.handle, h.parent, h.ref, h.words.then k, h.kinds.then k⟩
theorem fits_meets {o : Ob} {w : World} (h : Meets o w) : Calls Tryz.prog 54 #[ob o] w fun e w' => e = .returned (.bool (fitsB o)) ∧ Below w.heap.size w w' := fits_any o w h.kind h.words h.kinds h.typ h.digits h.assoc
theorem named_meets {o : Ob} {w : World} (h : Meets o w) (hf : fitsB o = true) : Calls Tryz.prog 56 #[ob o] w fun e w' => e = .returned (.bool (namedB o)) ∧ Below w.heap.size w w' := named_any o w (fits_kindB hf) h.kinds h.parent h.ref
set_option maxHeartbeats 8000000 in
theorem fault_fits (o : Ob) (whole : Bool) (w : World) (h : Meets o w) (hf : fitsB o = false) :
    Calls Tryz.prog 41 #[ob o, .bool whole] w fun e w' => e = .returned (.int .i64 40) ∧ Below w.heap.size w w' := by
  have hb : Below w.heap.size w w := Below.refl _ _
  have C1 := Lib.hid (fun W (k : Below w.heap.size w W) => hf ▸ fits_meets (h.then k))
  clear h hf
  go_enter Tryz.func41, Tryz.ntmps41
  go_wp2_with (go_at_call 54; (refine (C1.out _ (bAl hb _)).mono ?_; rintro e W0 ⟨rfl, k⟩; replace hb := bThen (bAl hb _) k))
  go_ret
  exact ⟨rfl, hb⟩
set_option maxHeartbeats 8000000 in
theorem fault_may (o : Ob) (whole : Bool) (w : World) (h : Meets o w) (hf : fitsB o = true) (hm : HL.mayB o.handle = false) :
    Calls Tryz.prog 41 #[ob o, .bool whole] w fun e w' => e = .returned (.int .i64 10) ∧ Below w.heap.size w w' := by
  have hb : Below w.heap.size w w := Below.refl _ _
  have C1 := Lib.hid (fun W (k : Below w.heap.size w W) => hf ▸ fits_meets (h.then k))
  have C2 := fun W => Lib.hid (hm ▸ HL.may_any o.handle W h.handle)
  clear h hf hm
  go_enter Tryz.func41, Tryz.ntmps41
  go_wp2_with fail
  go_at_call 54
  refine (C1.out _ (bAl hb _)).mono ?_
  rintro e W0 ⟨rfl, k⟩
  replace hb := bThen (bAl hb _) k
  have mO := (AtC.new _ _ _).then k
  have oc := mO.c
  go_wp2_with (first
    | (go_at_call 55; ((with_reducible refine (C2 _).out.mono ?_); rintro e W0 ⟨rfl, k⟩; replace hb := bThen hb k; replace mO := mO.then k; have oc := mO.c))
    | (go_at_call 56; ((with_reducible refine (C3.out _ hb).mono ?_); rintro e W0 ⟨rfl, k⟩; replace hb := bThen hb k; replace mO := mO.then k; have oc := mO.c))
    | (go_at_call 57; ((with_reducible refine (C4 _).out.mono ?_); rintro e W0 ⟨rfl, k⟩; replace hb := bThen hb k; replace mO := mO.then k; have oc := mO.c)))
  go_ret
  exact ⟨rfl, hb⟩
set_option maxHeartbeats 8000000 in
theorem fault_named (o : Ob) (whole : Bool) (w : World) (h : Meets o w) (hf : fitsB o = true) (hm : HL.mayB o.handle = true) (hn : namedB o = false) :
    Calls Tryz.prog 41 #[ob o, .bool true] w fun e w' => e = .returned (.int .i64 10) ∧ Below w.heap.size w w' := by
  have hb : Below w.heap.size w w := Below.refl _ _
  have C1 := Lib.hid (fun W (k : Below w.heap.size w W) => hf ▸ fits_meets (h.then k))
  have C2 := fun W => Lib.hid (hm ▸ HL.may_any o.handle W h.handle)
  have C3 := Lib.hid (fun W (k : Below w.heap.size w W) => hn ▸ named_meets (h.then k) hf)
  clear h hf hm
  go_enter Tryz.func41, Tryz.ntmps41
  go_wp2_with fail
  go_at_call 54
  refine (C1.out _ (bAl hb _)).mono ?_
  rintro e W0 ⟨rfl, k⟩
  replace hb := bThen (bAl hb _) k
  have mO := (AtC.new _ _ _).then k
  have oc := mO.c
  go_wp2_with (first
    | (go_at_call 55; ((with_reducible refine (C2 _).out.mono ?_); rintro e W0 ⟨rfl, k⟩; replace hb := bThen hb k; replace mO := mO.then k; have oc := mO.c))
    | (go_at_call 56; ((with_reducible refine (C3.out _ hb).mono ?_); rintro e W0 ⟨rfl, k⟩; replace hb := bThen hb k; replace mO := mO.then k; have oc := mO.c))
    | (go_at_call 57; ((with_reducible refine (C4 _).out.mono ?_); rintro e W0 ⟨rfl, k⟩; replace hb := bThen hb k; replace mO := mO.then k; have oc := mO.c)))
  go_ret
  exact ⟨rfl, hb⟩
set_option maxHeartbeats 8000000 in
theorem fault_counts_t (o : Ob) (whole : Bool) (w : World) (h : Meets o w) (hf : fitsB o = true) (hm : HL.mayB o.handle = true) (hn : namedB o = true) (hc : countsObB o = false) :
    Calls Tryz.prog 41 #[ob o, .bool true] w fun e w' => e = .returned (.int .i64 20) ∧ Below w.heap.size w w' := by
  have hb : Below w.heap.size w w := Below.refl _ _
  have C1 := Lib.hid (fun W (k : Below w.heap.size w W) => hf ▸ fits_meets (h.then k))
  have C2 := fun W => Lib.hid (hm ▸ HL.may_any o.handle W h.handle)
  have C3 := Lib.hid (fun W (k : Below w.heap.size w W) => hn ▸ named_meets (h.then k) hf)
  have C4 := fun W => Lib.hid (hc ▸ countsOb_any o W)
  clear h hf hm
  go_enter Tryz.func41, Tryz.ntmps41
  go_wp2_with fail
  go_at_call 54
  refine (C1.out _ (bAl hb _)).mono ?_
  rintro e W0 ⟨rfl, k⟩
  replace hb := bThen (bAl hb _) k
  have mO := (AtC.new _ _ _).then k
  have oc := mO.c
  go_wp2_with (first
    | (go_at_call 55; ((with_reducible refine (C2 _).out.mono ?_); rintro e W0 ⟨rfl, k⟩; replace hb := bThen hb k; replace mO := mO.then k; have oc := mO.c))
    | (go_at_call 56; ((with_reducible refine (C3.out _ hb).mono ?_); rintro e W0 ⟨rfl, k⟩; replace hb := bThen hb k; replace mO := mO.then k; have oc := mO.c))
    | (go_at_call 57; ((with_reducible refine (C4 _).out.mono ?_); rintro e W0 ⟨rfl, k⟩; replace hb := bThen hb k; replace mO := mO.then k; have oc := mO.c)))
  go_ret
  exact ⟨rfl, hb⟩
set_option maxHeartbeats 8000000 in
theorem fault_counts_f (o : Ob) (whole : Bool) (w : World) (h : Meets o w) (hf : fitsB o = true) (hm : HL.mayB o.handle = true) (hc : countsObB o = false) :
    Calls Tryz.prog 41 #[ob o, .bool false] w fun e w' => e = .returned (.int .i64 20) ∧ Below w.heap.size w w' := by
  have hb : Below w.heap.size w w := Below.refl _ _
  have C1 := Lib.hid (fun W (k : Below w.heap.size w W) => hf ▸ fits_meets (h.then k))
  have C2 := fun W => Lib.hid (hm ▸ HL.may_any o.handle W h.handle)
  have C4 := fun W => Lib.hid (hc ▸ countsOb_any o W)
  clear h hf hm
  go_enter Tryz.func41, Tryz.ntmps41
  go_wp2_with fail
  go_at_call 54
  refine (C1.out _ (bAl hb _)).mono ?_
  rintro e W0 ⟨rfl, k⟩
  replace hb := bThen (bAl hb _) k
  have mO := (AtC.new _ _ _).then k
  have oc := mO.c
  go_wp2_with (first
    | (go_at_call 55; ((with_reducible refine (C2 _).out.mono ?_); rintro e W0 ⟨rfl, k⟩; replace hb := bThen hb k; replace mO := mO.then k; have oc := mO.c))
    | (go_at_call 56; ((with_reducible refine (C3.out _ hb).mono ?_); rintro e W0 ⟨rfl, k⟩; replace hb := bThen hb k; replace mO := mO.then k; have oc := mO.c))
    | (go_at_call 57; ((with_reducible refine (C4 _).out.mono ?_); rintro e W0 ⟨rfl, k⟩; replace hb := bThen hb k; replace mO := mO.then k; have oc := mO.c)))
  go_ret
  exact ⟨rfl, hb⟩
set_option maxHeartbeats 8000000 in
theorem fault_order_t (o : Ob) (whole : Bool) (w : World) (h : Meets o w) (hf : fitsB o = true) (hm : HL.mayB o.handle = true) (hn : namedB o = true) (hc : countsObB o = true) (ho : orderedB o = false) :
    Calls Tryz.prog 41 #[ob o, .bool true] w fun e w' => e = .returned (.int .i64 30) ∧ Below w.heap.size w w' := by
  have hb : Below w.heap.size w w := Below.refl _ _
  have C1 := Lib.hid (fun W (k : Below w.heap.size w W) => hf ▸ fits_meets (h.then k))
  have C2 := fun W => Lib.hid (hm ▸ HL.may_any o.handle W h.handle)
  have C3 := Lib.hid (fun W (k : Below w.heap.size w W) => hn ▸ named_meets (h.then k) hf)
  have C4 := fun W => Lib.hid (hc ▸ countsOb_any o W)
  have C5 := fun W => Lib.hid (ho ▸ ordered_any o W)
  have C6 := fun W => Lib.hid (rangeOf_any o W)
  have C7 := fun W => Lib.hid (has_any o.lo o.hi o.value W)
  generalize hasB o.lo o.hi o.value = hs at *
  clear h hf hm
  go_enter Tryz.func41, Tryz.ntmps41
  go_wp2_with fail
  go_at_call 54
  refine (C1.out _ (bAl hb _)).mono ?_
  rintro e W0 ⟨rfl, k⟩
  replace hb := bThen (bAl hb _) k
  have mO := (AtC.new _ _ _).then k
  have oc := mO.c
  go_wp2_with (first
    | (go_at_call 55; ((with_reducible refine (C2 _).out.mono ?_); rintro e W0 ⟨rfl, k⟩; replace hb := bThen hb k; replace mO := mO.then k; have oc := mO.c))
    | (go_at_call 56; ((with_reducible refine (C3.out _ hb).mono ?_); rintro e W0 ⟨rfl, k⟩; replace hb := bThen hb k; replace mO := mO.then k; have oc := mO.c))
    | (go_at_call 57; ((with_reducible refine (C4 _).out.mono ?_); rintro e W0 ⟨rfl, k⟩; replace hb := bThen hb k; replace mO := mO.then k; have oc := mO.c)))
  clear oc
  refine wp_region_held_drew (S := fun w' => (∀ i, w'.cell? ⟨w.heap.size, i, none⟩ = (obCells o)[i]?) ∧ Below W0.heap.size W0 w') (by kernel_rfl) ⟨(mO.drew1).c, (Below.refl _ _).drew⟩ (fun hHeld0 => ?_)
  refine wpAnyH_take (i := 0) (oi := { dst := some 27, op := Op.load 35 (Operand.tmp 2), type := 35, pos := "object.go:95", after := #[], guard := none }) (v := ?vvr1n0) rfl (by kernel_rfl) (by kernel_rfl) (by kernel_rfl) (fun _ _ _ h => h) (Or.inl ⟨by rfl, ?hyr1n0⟩) (by assumption) ?restr1n0
  case hyr1n0 => (intro w hSw; (try dsimp only at hSw); go_simp; try with_reducible rfl)
  simp only [Act.put, List.setIfInBounds_toArray, List.set_cons_zero, List.set_cons_succ]
  refine wpAnyH_ready (rs := [1]) (by kernel_rfl) (by simp) ?_
  refine AllReadyH.cons (o := { dst := some 28, op := Op.call { callee := Callee.value (Operand.func 58), args := #[Operand.tmp 27], argTypes := #[35] }, type := 4, pos := "object.go:95", after := #[{ on := 0, ground := Ground.data }], guard := none }) rfl (fun K hK => ?_) AllReadyH.nil
  go_simp
  refine (C5 _).out.mono ?_
  rintro e w3 ⟨rfl, k3⟩
  go_wp2_with fail
  refine hK.out _ _ ⟨(mO.then (keepD hHeld0 k3)).c, keepD hHeld0 k3⟩ (fun hHeld1 => ?_)
  clear hK K hHeld0
  try simp only [Act.put, List.setIfInBounds_toArray, List.set_cons_zero, List.set_cons_succ]
  refine wpAnyH_take (i := 2) (oi := { dst := some 29, op := Op.unOp UnOp.not 4 (Operand.tmp 28), type := 4, pos := "object.go:95", after := #[{ on := 1, ground := Ground.data }], guard := none }) (v := ?vvr1n2) rfl (by kernel_rfl) (by kernel_rfl) (by kernel_rfl) (fun _ _ _ h => h) (Or.inl ⟨by rfl, ?hyr1n2⟩) (by assumption) ?restr1n2
  case hyr1n2 => (intro w hSw; (try dsimp only at hSw); go_simp; try with_reducible rfl)
  simp only [Act.put, List.setIfInBounds_toArray, List.set_cons_zero, List.set_cons_succ]
  refine wpAnyH_take (i := 3) (oi := { dst := some 30, op := Op.move (Operand.tmp 29), type := 4, pos := "object.go:95", after := #[{ on := 2, ground := Ground.data }, { on := 1, ground := Ground.chain }], guard := none }) (v := ?vvr1n3) rfl (by kernel_rfl) (by kernel_rfl) (by kernel_rfl) (fun _ _ _ h => h) (Or.inl ⟨by rfl, ?hyr1n3⟩) (by assumption) ?restr1n3
  case hyr1n3 => (intro w hSw; (try dsimp only at hSw); go_simp; try with_reducible rfl)
  simp only [Act.put, List.setIfInBounds_toArray, List.set_cons_zero, List.set_cons_succ]
  refine wpAnyH_take (i := 4) (oi := { dst := some 31, op := Op.move (Operand.tmp 1), type := 4, pos := "object.go:95", after := #[{ on := 3, ground := Ground.guard }], guard := some (3, false) }) (v := undef) rfl (by kernel_rfl) (by kernel_rfl) (by kernel_rfl) (fun _ _ _ h => h) (Or.inr ⟨by rfl, rfl⟩) (by assumption) ?_
  simp only [Act.put, List.setIfInBounds_toArray, List.set_cons_zero, List.set_cons_succ]
  refine wpAnyH_take (i := 5) (oi := { dst := some 32, op := Op.move (Operand.tmp 31), type := 4, pos := "object.go:95", after := #[{ on := 4, ground := Ground.data }, { on := 3, ground := Ground.chain }, { on := 3, ground := Ground.guard }], guard := some (3, false) }) (v := undef) rfl (by kernel_rfl) (by kernel_rfl) (by kernel_rfl) (fun _ _ _ h => h) (Or.inr ⟨by rfl, rfl⟩) (by assumption) ?_
  simp only [Act.put, List.setIfInBounds_toArray, List.set_cons_zero, List.set_cons_succ]
  refine wpAnyH_take (i := 6) (oi := { dst := some 33, op := Op.fieldAddr 35 (Operand.tmp 2) 9, type := 0, pos := "object.go:95", after := #[{ on := 5, ground := Ground.guard }], guard := some (5, true) }) (v := undef) rfl (by kernel_rfl) (by kernel_rfl) (by kernel_rfl) (fun _ _ _ h => h) (Or.inr ⟨by rfl, rfl⟩) (by assumption) ?_
  simp only [Act.put, List.setIfInBounds_toArray, List.set_cons_zero, List.set_cons_succ]
  refine wpAnyH_take (i := 7) (oi := { dst := some 34, op := Op.load 4 (Operand.tmp 33), type := 4, pos := "object.go:95", after := #[{ on := 6, ground := Ground.data }, { on := 5, ground := Ground.guard }], guard := some (5, true) }) (v := undef) rfl (by kernel_rfl) (by kernel_rfl) (by kernel_rfl) (fun _ _ _ h => h) (Or.inr ⟨by rfl, rfl⟩) (by assumption) ?_
  simp only [Act.put, List.setIfInBounds_toArray, List.set_cons_zero, List.set_cons_succ]
  refine wpAnyH_take (i := 8) (oi := { dst := some 35, op := Op.pick (Operand.tmp 32) (Operand.tmp 34) (Operand.const (Value.bool false)), type := 4, pos := "object.go:95", after := #[{ on := 5, ground := Ground.data }, { on := 7, ground := Ground.data }, { on := 3, ground := Ground.guard }], guard := some (3, false) }) (v := undef) rfl (by kernel_rfl) (by kernel_rfl) (by kernel_rfl) (fun _ _ _ h => h) (Or.inr ⟨by rfl, rfl⟩) (by assumption) ?_
  simp only [Act.put, List.setIfInBounds_toArray, List.set_cons_zero, List.set_cons_succ]
  refine wpAnyH_take (i := 9) (oi := { dst := some 36, op := Op.move (Operand.tmp 35), type := 4, pos := "object.go:95", after := #[{ on := 8, ground := Ground.data }, { on := 5, ground := Ground.chain }, { on := 3, ground := Ground.guard }], guard := some (3, false) }) (v := undef) rfl (by kernel_rfl) (by kernel_rfl) (by kernel_rfl) (fun _ _ _ h => h) (Or.inr ⟨by rfl, rfl⟩) (by assumption) ?_
  simp only [Act.put, List.setIfInBounds_toArray, List.set_cons_zero, List.set_cons_succ]
  refine wpAnyH_take (i := 10) (oi := { dst := some 37, op := Op.load 35 (Operand.tmp 2), type := 35, pos := "object.go:95", after := #[{ on := 9, ground := Ground.guard }], guard := some (9, true) }) (v := undef) rfl (by kernel_rfl) (by kernel_rfl) (by kernel_rfl) (fun _ _ _ h => h) (Or.inr ⟨by rfl, rfl⟩) (by assumption) ?_
  simp only [Act.put, List.setIfInBounds_toArray, List.set_cons_zero, List.set_cons_succ]
  refine wpAnyH_take (i := 11) (oi := { dst := some 38, op := Op.call { callee := Callee.value (Operand.func 59), args := #[Operand.tmp 37], argTypes := #[35] }, type := 76, pos := "object.go:95", after := #[{ on := 10, ground := Ground.data }, { on := 9, ground := Ground.chain }, { on := 9, ground := Ground.guard }], guard := some (9, true) }) (v := undef) rfl (by kernel_rfl) (by kernel_rfl) (by kernel_rfl) (fun _ _ _ h => h) (Or.inr ⟨by rfl, rfl⟩) (by assumption) ?_
  simp only [Act.put, List.setIfInBounds_toArray, List.set_cons_zero, List.set_cons_succ]
  refine wpAnyH_take (i := 12) (oi := { dst := some 39, op := Op.fieldAddr 35 (Operand.tmp 2) 10, type := 0, pos := "object.go:95", after := #[{ on := 9, ground := Ground.guard }], guard := some (9, true) }) (v := undef) rfl (by kernel_rfl) (by kernel_rfl) (by kernel_rfl) (fun _ _ _ h => h) (Or.inr ⟨by rfl, rfl⟩) (by assumption) ?_
  simp only [Act.put, List.setIfInBounds_toArray, List.set_cons_zero, List.set_cons_succ]
  refine wpAnyH_take (i := 13) (oi := { dst := some 40, op := Op.load 2 (Operand.tmp 39), type := 2, pos := "object.go:95", after := #[{ on := 12, ground := Ground.data }, { on := 9, ground := Ground.guard }], guard := some (9, true) }) (v := undef) rfl (by kernel_rfl) (by kernel_rfl) (by kernel_rfl) (fun _ _ _ h => h) (Or.inr ⟨by rfl, rfl⟩) (by assumption) ?_
  simp only [Act.put, List.setIfInBounds_toArray, List.set_cons_zero, List.set_cons_succ]
  refine wpAnyH_take (i := 14) (oi := { dst := some 41, op := Op.call { callee := Callee.value (Operand.func 60), args := #[Operand.tmp 38, Operand.tmp 40], argTypes := #[76, 2] }, type := 4, pos := "object.go:95", after := #[{ on := 11, ground := Ground.data }, { on := 13, ground := Ground.data }, { on := 11, ground := Ground.chain }, { on := 9, ground := Ground.guard }], guard := some (9, true) }) (v := undef) rfl (by kernel_rfl) (by kernel_rfl) (by kernel_rfl) (fun _ _ _ h => h) (Or.inr ⟨by rfl, rfl⟩) (by assumption) ?_
  simp only [Act.put, List.setIfInBounds_toArray, List.set_cons_zero, List.set_cons_succ]
  refine wpAnyH_take (i := 15) (oi := { dst := some 42, op := Op.unOp UnOp.not 4 (Operand.tmp 41), type := 4, pos := "object.go:95", after := #[{ on := 14, ground := Ground.data }, { on := 9, ground := Ground.guard }], guard := some (9, true) }) (v := undef) rfl (by kernel_rfl) (by kernel_rfl) (by kernel_rfl) (fun _ _ _ h => h) (Or.inr ⟨by rfl, rfl⟩) (by assumption) ?_
  simp only [Act.put, List.setIfInBounds_toArray, List.set_cons_zero, List.set_cons_succ]
  refine wpAnyH_take (i := 16) (oi := { dst := some 43, op := Op.pick (Operand.tmp 36) (Operand.tmp 42) (Operand.const (Value.bool false)), type := 4, pos := "object.go:95", after := #[{ on := 9, ground := Ground.data }, { on := 15, ground := Ground.data }, { on := 3, ground := Ground.guard }], guard := some (3, false) }) (v := undef) rfl (by kernel_rfl) (by kernel_rfl) (by kernel_rfl) (fun _ _ _ h => h) (Or.inr ⟨by rfl, rfl⟩) (by assumption) ?_
  simp only [Act.put, List.setIfInBounds_toArray, List.set_cons_zero, List.set_cons_succ]
  refine wpAnyH_take (i := 17) (oi := { dst := some 44, op := Op.pick (Operand.tmp 30) (Operand.const (Value.bool true)) (Operand.tmp 43), type := 4, pos := "object.go:95", after := #[{ on := 3, ground := Ground.data }, { on := 16, ground := Ground.data }], guard := none }) (v := ?vvr1n17) rfl (by kernel_rfl) (by kernel_rfl) (by kernel_rfl) (fun _ _ _ h => h) (Or.inl ⟨by rfl, ?hyr1n17⟩) (by assumption) ?restr1n17
  case hyr1n17 => (intro w hSw; (try dsimp only at hSw); go_simp; try with_reducible rfl)
  simp only [Act.put, List.setIfInBounds_toArray, List.set_cons_zero, List.set_cons_succ]
  refine wpAnyH_take (i := 18) (oi := { dst := some 26, op := Op.assign (Operand.tmp 44), type := 4, pos := "object.go:95", after := #[{ on := 17, ground := Ground.data }, { on := 14, ground := Ground.chain }], guard := none }) (v := ?vvr1n18) rfl (by kernel_rfl) (by kernel_rfl) (by kernel_rfl) (fun _ _ _ h => h) (Or.inl ⟨by rfl, ?hyr1n18⟩) (by assumption) ?restr1n18
  case hyr1n18 => (intro w hSw; (try dsimp only at hSw); go_simp; try with_reducible rfl)
  simp only [Act.put, List.setIfInBounds_toArray, List.set_cons_zero, List.set_cons_succ]
  refine wpAnyH_done (by kernel_rfl) ?_ _
  go_wp2_with fail
  go_ret
  exact ⟨rfl, bThen hb hHeld1.2⟩
set_option maxHeartbeats 8000000 in
theorem fault_has_f (o : Ob) (whole : Bool) (w : World) (h : Meets o w) (hf : fitsB o = true) (hm : HL.mayB o.handle = true) (hn : namedB o = true) (hc : countsObB o = true) (ho : orderedB o = true) (hz : o.has = false) :
    Calls Tryz.prog 41 #[ob o, .bool true] w fun e w' => e = .returned (.int .i64 0) ∧ Below w.heap.size w w' := by
  have hb : Below w.heap.size w w := Below.refl _ _
  have C1 := Lib.hid (fun W (k : Below w.heap.size w W) => hf ▸ fits_meets (h.then k))
  have C2 := fun W => Lib.hid (hm ▸ HL.may_any o.handle W h.handle)
  have C3 := Lib.hid (fun W (k : Below w.heap.size w W) => hn ▸ named_meets (h.then k) hf)
  have C4 := fun W => Lib.hid (hc ▸ countsOb_any o W)
  have C5 := fun W => Lib.hid (ho ▸ ordered_any o W)
  have C6 := fun W => Lib.hid (rangeOf_any o W)
  have C7 := fun W => Lib.hid (has_any o.lo o.hi o.value W)
  generalize hasB o.lo o.hi o.value = hs at *
  clear h hf hm hn hc ho
  obtain ⟨xh, xk, xp, xt, xr, xlo, xhi, xd, xon, xhas, xv, xlw, xhg, xa⟩ := o
  dsimp only at *
  subst hz
  go_enter Tryz.func41, Tryz.ntmps41
  go_wp2_with fail
  go_at_call 54
  refine (C1.out _ (bAl hb _)).mono ?_
  rintro e W0 ⟨rfl, k⟩
  replace hb := bThen (bAl hb _) k
  have mO := (AtC.new _ _ _).then k
  have oc := mO.c
  go_wp2_with (first
    | (go_at_call 55; ((with_reducible refine (C2 _).out.mono ?_); rintro e W0 ⟨rfl, k⟩; replace hb := bThen hb k; replace mO := mO.then k; have oc := mO.c))
    | (go_at_call 56; ((with_reducible refine (C3.out _ hb).mono ?_); rintro e W0 ⟨rfl, k⟩; replace hb := bThen hb k; replace mO := mO.then k; have oc := mO.c))
    | (go_at_call 57; ((with_reducible refine (C4 _).out.mono ?_); rintro e W0 ⟨rfl, k⟩; replace hb := bThen hb k; replace mO := mO.then k; have oc := mO.c)))
  clear oc
  refine wp_region_held_drew (S := fun w' => (∀ i, w'.cell? ⟨w.heap.size, i, none⟩ = (obCells ⟨xh, xk, xp, xt, xr, xlo, xhi, xd, xon, false, xv, xlw, xhg, xa⟩)[i]?) ∧ Below W0.heap.size W0 w') (by kernel_rfl) ⟨(mO.drew1).c, (Below.refl _ _).drew⟩ (fun hHeld0 => ?_)
  refine wpAnyH_take (i := 0) (oi := { dst := some 27, op := Op.load 35 (Operand.tmp 2), type := 35, pos := "object.go:95", after := #[], guard := none }) (v := ?vvr2n0) rfl (by kernel_rfl) (by kernel_rfl) (by kernel_rfl) (fun _ _ _ h => h) (Or.inl ⟨by rfl, ?hyr2n0⟩) (by assumption) ?restr2n0
  case hyr2n0 => (intro w hSw; (try dsimp only at hSw); go_simp; try with_reducible rfl)
  simp only [Act.put, List.setIfInBounds_toArray, List.set_cons_zero, List.set_cons_succ]
  refine wpAnyH_ready (rs := [1]) (by kernel_rfl) (by simp) ?_
  refine AllReadyH.cons (o := { dst := some 28, op := Op.call { callee := Callee.value (Operand.func 58), args := #[Operand.tmp 27], argTypes := #[35] }, type := 4, pos := "object.go:95", after := #[{ on := 0, ground := Ground.data }], guard := none }) rfl (fun K hK => ?_) AllReadyH.nil
  go_simp
  refine (C5 _).out.mono ?_
  rintro e w3 ⟨rfl, k3⟩
  go_wp2_with fail
  refine hK.out _ _ ⟨(mO.then (keepD hHeld0 k3)).c, keepD hHeld0 k3⟩ (fun hHeld1 => ?_)
  clear hK K hHeld0
  try simp only [Act.put, List.setIfInBounds_toArray, List.set_cons_zero, List.set_cons_succ]
  refine wpAnyH_take (i := 2) (oi := { dst := some 29, op := Op.unOp UnOp.not 4 (Operand.tmp 28), type := 4, pos := "object.go:95", after := #[{ on := 1, ground := Ground.data }], guard := none }) (v := ?vvr2n2) rfl (by kernel_rfl) (by kernel_rfl) (by kernel_rfl) (fun _ _ _ h => h) (Or.inl ⟨by rfl, ?hyr2n2⟩) (by assumption) ?restr2n2
  case hyr2n2 => (intro w hSw; (try dsimp only at hSw); go_simp; try with_reducible rfl)
  simp only [Act.put, List.setIfInBounds_toArray, List.set_cons_zero, List.set_cons_succ]
  refine wpAnyH_take (i := 3) (oi := { dst := some 30, op := Op.move (Operand.tmp 29), type := 4, pos := "object.go:95", after := #[{ on := 2, ground := Ground.data }, { on := 1, ground := Ground.chain }], guard := none }) (v := ?vvr2n3) rfl (by kernel_rfl) (by kernel_rfl) (by kernel_rfl) (fun _ _ _ h => h) (Or.inl ⟨by rfl, ?hyr2n3⟩) (by assumption) ?restr2n3
  case hyr2n3 => (intro w hSw; (try dsimp only at hSw); go_simp; try with_reducible rfl)
  simp only [Act.put, List.setIfInBounds_toArray, List.set_cons_zero, List.set_cons_succ]
  refine wpAnyH_take (i := 4) (oi := { dst := some 31, op := Op.move (Operand.tmp 1), type := 4, pos := "object.go:95", after := #[{ on := 3, ground := Ground.guard }], guard := some (3, false) }) (v := ?vvr2n4) rfl (by kernel_rfl) (by kernel_rfl) (by kernel_rfl) (fun _ _ _ h => h) (Or.inl ⟨by rfl, ?hyr2n4⟩) (by assumption) ?restr2n4
  case hyr2n4 => (intro w hSw; (try dsimp only at hSw); go_simp; try with_reducible rfl)
  simp only [Act.put, List.setIfInBounds_toArray, List.set_cons_zero, List.set_cons_succ]
  refine wpAnyH_take (i := 5) (oi := { dst := some 32, op := Op.move (Operand.tmp 31), type := 4, pos := "object.go:95", after := #[{ on := 4, ground := Ground.data }, { on := 3, ground := Ground.chain }, { on := 3, ground := Ground.guard }], guard := some (3, false) }) (v := ?vvr2n5) rfl (by kernel_rfl) (by kernel_rfl) (by kernel_rfl) (fun _ _ _ h => h) (Or.inl ⟨by rfl, ?hyr2n5⟩) (by assumption) ?restr2n5
  case hyr2n5 => (intro w hSw; (try dsimp only at hSw); go_simp; try with_reducible rfl)
  simp only [Act.put, List.setIfInBounds_toArray, List.set_cons_zero, List.set_cons_succ]
  refine wpAnyH_take (i := 6) (oi := { dst := some 33, op := Op.fieldAddr 35 (Operand.tmp 2) 9, type := 0, pos := "object.go:95", after := #[{ on := 5, ground := Ground.guard }], guard := some (5, true) }) (v := ?vvr2n6) rfl (by kernel_rfl) (by kernel_rfl) (by kernel_rfl) (fun _ _ _ h => h) (Or.inl ⟨by rfl, ?hyr2n6⟩) (by assumption) ?restr2n6
  case hyr2n6 => (intro w hSw; (try dsimp only at hSw); go_simp; try with_reducible rfl)
  simp only [Act.put, List.setIfInBounds_toArray, List.set_cons_zero, List.set_cons_succ]
  refine wpAnyH_take (i := 7) (oi := { dst := some 34, op := Op.load 4 (Operand.tmp 33), type := 4, pos := "object.go:95", after := #[{ on := 6, ground := Ground.data }, { on := 5, ground := Ground.guard }], guard := some (5, true) }) (v := ?vvr2n7) rfl (by kernel_rfl) (by kernel_rfl) (by kernel_rfl) (fun _ _ _ h => h) (Or.inl ⟨by rfl, ?hyr2n7⟩) (by assumption) ?restr2n7
  case hyr2n7 => (intro w hSw; (try dsimp only at hSw); go_simp; try with_reducible rfl)
  simp only [Act.put, List.setIfInBounds_toArray, List.set_cons_zero, List.set_cons_succ]
  refine wpAnyH_take (i := 8) (oi := { dst := some 35, op := Op.pick (Operand.tmp 32) (Operand.tmp 34) (Operand.const (Value.bool false)), type := 4, pos := "object.go:95", after := #[{ on := 5, ground := Ground.data }, { on := 7, ground := Ground.data }, { on := 3, ground := Ground.guard }], guard := some (3, false) }) (v := ?vvr2n8) rfl (by kernel_rfl) (by kernel_rfl) (by kernel_rfl) (fun _ _ _ h => h) (Or.inl ⟨by rfl, ?hyr2n8⟩) (by assumption) ?restr2n8
  case hyr2n8 => (intro w hSw; (try dsimp only at hSw); go_simp; try with_reducible rfl)
  simp only [Act.put, List.setIfInBounds_toArray, List.set_cons_zero, List.set_cons_succ]
  refine wpAnyH_take (i := 9) (oi := { dst := some 36, op := Op.move (Operand.tmp 35), type := 4, pos := "object.go:95", after := #[{ on := 8, ground := Ground.data }, { on := 5, ground := Ground.chain }, { on := 3, ground := Ground.guard }], guard := some (3, false) }) (v := ?vvr2n9) rfl (by kernel_rfl) (by kernel_rfl) (by kernel_rfl) (fun _ _ _ h => h) (Or.inl ⟨by rfl, ?hyr2n9⟩) (by assumption) ?restr2n9
  case hyr2n9 => (intro w hSw; (try dsimp only at hSw); go_simp; try with_reducible rfl)
  simp only [Act.put, List.setIfInBounds_toArray, List.set_cons_zero, List.set_cons_succ]
  refine wpAnyH_take (i := 10) (oi := { dst := some 37, op := Op.load 35 (Operand.tmp 2), type := 35, pos := "object.go:95", after := #[{ on := 9, ground := Ground.guard }], guard := some (9, true) }) (v := undef) rfl (by kernel_rfl) (by kernel_rfl) (by kernel_rfl) (fun _ _ _ h => h) (Or.inr ⟨by rfl, rfl⟩) (by assumption) ?_
  simp only [Act.put, List.setIfInBounds_toArray, List.set_cons_zero, List.set_cons_succ]
  refine wpAnyH_take (i := 11) (oi := { dst := some 38, op := Op.call { callee := Callee.value (Operand.func 59), args := #[Operand.tmp 37], argTypes := #[35] }, type := 76, pos := "object.go:95", after := #[{ on := 10, ground := Ground.data }, { on := 9, ground := Ground.chain }, { on := 9, ground := Ground.guard }], guard := some (9, true) }) (v := undef) rfl (by kernel_rfl) (by kernel_rfl) (by kernel_rfl) (fun _ _ _ h => h) (Or.inr ⟨by rfl, rfl⟩) (by assumption) ?_
  simp only [Act.put, List.setIfInBounds_toArray, List.set_cons_zero, List.set_cons_succ]
  refine wpAnyH_take (i := 12) (oi := { dst := some 39, op := Op.fieldAddr 35 (Operand.tmp 2) 10, type := 0, pos := "object.go:95", after := #[{ on := 9, ground := Ground.guard }], guard := some (9, true) }) (v := undef) rfl (by kernel_rfl) (by kernel_rfl) (by kernel_rfl) (fun _ _ _ h => h) (Or.inr ⟨by rfl, rfl⟩) (by assumption) ?_
  simp only [Act.put, List.setIfInBounds_toArray, List.set_cons_zero, List.set_cons_succ]
  refine wpAnyH_take (i := 13) (oi := { dst := some 40, op := Op.load 2 (Operand.tmp 39), type := 2, pos := "object.go:95", after := #[{ on := 12, ground := Ground.data }, { on := 9, ground := Ground.guard }], guard := some (9, true) }) (v := undef) rfl (by kernel_rfl) (by kernel_rfl) (by kernel_rfl) (fun _ _ _ h => h) (Or.inr ⟨by rfl, rfl⟩) (by assumption) ?_
  simp only [Act.put, List.setIfInBounds_toArray, List.set_cons_zero, List.set_cons_succ]
  refine wpAnyH_take (i := 14) (oi := { dst := some 41, op := Op.call { callee := Callee.value (Operand.func 60), args := #[Operand.tmp 38, Operand.tmp 40], argTypes := #[76, 2] }, type := 4, pos := "object.go:95", after := #[{ on := 11, ground := Ground.data }, { on := 13, ground := Ground.data }, { on := 11, ground := Ground.chain }, { on := 9, ground := Ground.guard }], guard := some (9, true) }) (v := undef) rfl (by kernel_rfl) (by kernel_rfl) (by kernel_rfl) (fun _ _ _ h => h) (Or.inr ⟨by rfl, rfl⟩) (by assumption) ?_
  simp only [Act.put, List.setIfInBounds_toArray, List.set_cons_zero, List.set_cons_succ]
  refine wpAnyH_take (i := 15) (oi := { dst := some 42, op := Op.unOp UnOp.not 4 (Operand.tmp 41), type := 4, pos := "object.go:95", after := #[{ on := 14, ground := Ground.data }, { on := 9, ground := Ground.guard }], guard := some (9, true) }) (v := undef) rfl (by kernel_rfl) (by kernel_rfl) (by kernel_rfl) (fun _ _ _ h => h) (Or.inr ⟨by rfl, rfl⟩) (by assumption) ?_
  simp only [Act.put, List.setIfInBounds_toArray, List.set_cons_zero, List.set_cons_succ]
  refine wpAnyH_take (i := 16) (oi := { dst := some 43, op := Op.pick (Operand.tmp 36) (Operand.tmp 42) (Operand.const (Value.bool false)), type := 4, pos := "object.go:95", after := #[{ on := 9, ground := Ground.data }, { on := 15, ground := Ground.data }, { on := 3, ground := Ground.guard }], guard := some (3, false) }) (v := ?vvr2n16) rfl (by kernel_rfl) (by kernel_rfl) (by kernel_rfl) (fun _ _ _ h => h) (Or.inl ⟨by rfl, ?hyr2n16⟩) (by assumption) ?restr2n16
  case hyr2n16 => (intro w hSw; (try dsimp only at hSw); go_simp; try with_reducible rfl)
  simp only [Act.put, List.setIfInBounds_toArray, List.set_cons_zero, List.set_cons_succ]
  refine wpAnyH_take (i := 17) (oi := { dst := some 44, op := Op.pick (Operand.tmp 30) (Operand.const (Value.bool true)) (Operand.tmp 43), type := 4, pos := "object.go:95", after := #[{ on := 3, ground := Ground.data }, { on := 16, ground := Ground.data }], guard := none }) (v := ?vvr2n17) rfl (by kernel_rfl) (by kernel_rfl) (by kernel_rfl) (fun _ _ _ h => h) (Or.inl ⟨by rfl, ?hyr2n17⟩) (by assumption) ?restr2n17
  case hyr2n17 => (intro w hSw; (try dsimp only at hSw); go_simp; try with_reducible rfl)
  simp only [Act.put, List.setIfInBounds_toArray, List.set_cons_zero, List.set_cons_succ]
  refine wpAnyH_take (i := 18) (oi := { dst := some 26, op := Op.assign (Operand.tmp 44), type := 4, pos := "object.go:95", after := #[{ on := 17, ground := Ground.data }, { on := 14, ground := Ground.chain }], guard := none }) (v := ?vvr2n18) rfl (by kernel_rfl) (by kernel_rfl) (by kernel_rfl) (fun _ _ _ h => h) (Or.inl ⟨by rfl, ?hyr2n18⟩) (by assumption) ?restr2n18
  case hyr2n18 => (intro w hSw; (try dsimp only at hSw); go_simp; try with_reducible rfl)
  simp only [Act.put, List.setIfInBounds_toArray, List.set_cons_zero, List.set_cons_succ]
  refine wpAnyH_done (by kernel_rfl) ?_ _
  go_wp2_with fail
  go_ret
  exact ⟨rfl, bThen hb hHeld1.2⟩
set_option maxHeartbeats 8000000 in
theorem fault_in_t (o : Ob) (whole : Bool) (w : World) (h : Meets o w) (hf : fitsB o = true) (hm : HL.mayB o.handle = true) (hn : namedB o = true) (hc : countsObB o = true) (ho : orderedB o = true) (hz : o.has = true) (hh : hasB o.lo o.hi o.value = true) :
    Calls Tryz.prog 41 #[ob o, .bool true] w fun e w' => e = .returned (.int .i64 0) ∧ Below w.heap.size w w' := by
  have hb : Below w.heap.size w w := Below.refl _ _
  have C1 := Lib.hid (fun W (k : Below w.heap.size w W) => hf ▸ fits_meets (h.then k))
  have C2 := fun W => Lib.hid (hm ▸ HL.may_any o.handle W h.handle)
  have C3 := Lib.hid (fun W (k : Below w.heap.size w W) => hn ▸ named_meets (h.then k) hf)
  have C4 := fun W => Lib.hid (hc ▸ countsOb_any o W)
  have C5 := fun W => Lib.hid (ho ▸ ordered_any o W)
  have C6 := fun W => Lib.hid (rangeOf_any o W)
  have C7 := fun W => Lib.hid (hh ▸ has_any o.lo o.hi o.value W)
  clear h hf hm hn hc ho hh
  obtain ⟨xh, xk, xp, xt, xr, xlo, xhi, xd, xon, xhas, xv, xlw, xhg, xa⟩ := o
  dsimp only at *
  subst hz
  go_enter Tryz.func41, Tryz.ntmps41
  go_wp2_with fail
  go_at_call 54
  refine (C1.out _ (bAl hb _)).mono ?_
  rintro e W0 ⟨rfl, k⟩
  replace hb := bThen (bAl hb _) k
  have mO := (AtC.new _ _ _).then k
  have oc := mO.c
  go_wp2_with (first
    | (go_at_call 55; ((with_reducible refine (C2 _).out.mono ?_); rintro e W0 ⟨rfl, k⟩; replace hb := bThen hb k; replace mO := mO.then k; have oc := mO.c))
    | (go_at_call 56; ((with_reducible refine (C3.out _ hb).mono ?_); rintro e W0 ⟨rfl, k⟩; replace hb := bThen hb k; replace mO := mO.then k; have oc := mO.c))
    | (go_at_call 57; ((with_reducible refine (C4 _).out.mono ?_); rintro e W0 ⟨rfl, k⟩; replace hb := bThen hb k; replace mO := mO.then k; have oc := mO.c)))
  clear oc
  refine wp_region_held_drew (S := fun w' => (∀ i, w'.cell? ⟨w.heap.size, i, none⟩ = (obCells ⟨xh, xk, xp, xt, xr, xlo, xhi, xd, xon, true, xv, xlw, xhg, xa⟩)[i]?) ∧ Below W0.heap.size W0 w') (by kernel_rfl) ⟨(mO.drew1).c, (Below.refl _ _).drew⟩ (fun hHeld0 => ?_)
  refine wpAnyH_take (i := 0) (oi := { dst := some 27, op := Op.load 35 (Operand.tmp 2), type := 35, pos := "object.go:95", after := #[], guard := none }) (v := ?vvr3n0) rfl (by kernel_rfl) (by kernel_rfl) (by kernel_rfl) (fun _ _ _ h => h) (Or.inl ⟨by rfl, ?hyr3n0⟩) (by assumption) ?restr3n0
  case hyr3n0 => (intro w hSw; (try dsimp only at hSw); go_simp; try with_reducible rfl)
  simp only [Act.put, List.setIfInBounds_toArray, List.set_cons_zero, List.set_cons_succ]
  refine wpAnyH_ready (rs := [1]) (by kernel_rfl) (by simp) ?_
  refine AllReadyH.cons (o := { dst := some 28, op := Op.call { callee := Callee.value (Operand.func 58), args := #[Operand.tmp 27], argTypes := #[35] }, type := 4, pos := "object.go:95", after := #[{ on := 0, ground := Ground.data }], guard := none }) rfl (fun K hK => ?_) AllReadyH.nil
  go_simp
  refine (C5 _).out.mono ?_
  rintro e w3 ⟨rfl, k3⟩
  go_wp2_with fail
  refine hK.out _ _ ⟨(mO.then (keepD hHeld0 k3)).c, keepD hHeld0 k3⟩ (fun hHeld1 => ?_)
  clear hK K hHeld0
  try simp only [Act.put, List.setIfInBounds_toArray, List.set_cons_zero, List.set_cons_succ]
  refine wpAnyH_take (i := 2) (oi := { dst := some 29, op := Op.unOp UnOp.not 4 (Operand.tmp 28), type := 4, pos := "object.go:95", after := #[{ on := 1, ground := Ground.data }], guard := none }) (v := ?vvr3n2) rfl (by kernel_rfl) (by kernel_rfl) (by kernel_rfl) (fun _ _ _ h => h) (Or.inl ⟨by rfl, ?hyr3n2⟩) (by assumption) ?restr3n2
  case hyr3n2 => (intro w hSw; (try dsimp only at hSw); go_simp; try with_reducible rfl)
  simp only [Act.put, List.setIfInBounds_toArray, List.set_cons_zero, List.set_cons_succ]
  refine wpAnyH_take (i := 3) (oi := { dst := some 30, op := Op.move (Operand.tmp 29), type := 4, pos := "object.go:95", after := #[{ on := 2, ground := Ground.data }, { on := 1, ground := Ground.chain }], guard := none }) (v := ?vvr3n3) rfl (by kernel_rfl) (by kernel_rfl) (by kernel_rfl) (fun _ _ _ h => h) (Or.inl ⟨by rfl, ?hyr3n3⟩) (by assumption) ?restr3n3
  case hyr3n3 => (intro w hSw; (try dsimp only at hSw); go_simp; try with_reducible rfl)
  simp only [Act.put, List.setIfInBounds_toArray, List.set_cons_zero, List.set_cons_succ]
  refine wpAnyH_take (i := 4) (oi := { dst := some 31, op := Op.move (Operand.tmp 1), type := 4, pos := "object.go:95", after := #[{ on := 3, ground := Ground.guard }], guard := some (3, false) }) (v := ?vvr3n4) rfl (by kernel_rfl) (by kernel_rfl) (by kernel_rfl) (fun _ _ _ h => h) (Or.inl ⟨by rfl, ?hyr3n4⟩) (by assumption) ?restr3n4
  case hyr3n4 => (intro w hSw; (try dsimp only at hSw); go_simp; try with_reducible rfl)
  simp only [Act.put, List.setIfInBounds_toArray, List.set_cons_zero, List.set_cons_succ]
  refine wpAnyH_take (i := 5) (oi := { dst := some 32, op := Op.move (Operand.tmp 31), type := 4, pos := "object.go:95", after := #[{ on := 4, ground := Ground.data }, { on := 3, ground := Ground.chain }, { on := 3, ground := Ground.guard }], guard := some (3, false) }) (v := ?vvr3n5) rfl (by kernel_rfl) (by kernel_rfl) (by kernel_rfl) (fun _ _ _ h => h) (Or.inl ⟨by rfl, ?hyr3n5⟩) (by assumption) ?restr3n5
  case hyr3n5 => (intro w hSw; (try dsimp only at hSw); go_simp; try with_reducible rfl)
  simp only [Act.put, List.setIfInBounds_toArray, List.set_cons_zero, List.set_cons_succ]
  refine wpAnyH_take (i := 6) (oi := { dst := some 33, op := Op.fieldAddr 35 (Operand.tmp 2) 9, type := 0, pos := "object.go:95", after := #[{ on := 5, ground := Ground.guard }], guard := some (5, true) }) (v := ?vvr3n6) rfl (by kernel_rfl) (by kernel_rfl) (by kernel_rfl) (fun _ _ _ h => h) (Or.inl ⟨by rfl, ?hyr3n6⟩) (by assumption) ?restr3n6
  case hyr3n6 => (intro w hSw; (try dsimp only at hSw); go_simp; try with_reducible rfl)
  simp only [Act.put, List.setIfInBounds_toArray, List.set_cons_zero, List.set_cons_succ]
  refine wpAnyH_take (i := 7) (oi := { dst := some 34, op := Op.load 4 (Operand.tmp 33), type := 4, pos := "object.go:95", after := #[{ on := 6, ground := Ground.data }, { on := 5, ground := Ground.guard }], guard := some (5, true) }) (v := ?vvr3n7) rfl (by kernel_rfl) (by kernel_rfl) (by kernel_rfl) (fun _ _ _ h => h) (Or.inl ⟨by rfl, ?hyr3n7⟩) (by assumption) ?restr3n7
  case hyr3n7 => (intro w hSw; (try dsimp only at hSw); go_simp; try with_reducible rfl)
  simp only [Act.put, List.setIfInBounds_toArray, List.set_cons_zero, List.set_cons_succ]
  refine wpAnyH_take (i := 8) (oi := { dst := some 35, op := Op.pick (Operand.tmp 32) (Operand.tmp 34) (Operand.const (Value.bool false)), type := 4, pos := "object.go:95", after := #[{ on := 5, ground := Ground.data }, { on := 7, ground := Ground.data }, { on := 3, ground := Ground.guard }], guard := some (3, false) }) (v := ?vvr3n8) rfl (by kernel_rfl) (by kernel_rfl) (by kernel_rfl) (fun _ _ _ h => h) (Or.inl ⟨by rfl, ?hyr3n8⟩) (by assumption) ?restr3n8
  case hyr3n8 => (intro w hSw; (try dsimp only at hSw); go_simp; try with_reducible rfl)
  simp only [Act.put, List.setIfInBounds_toArray, List.set_cons_zero, List.set_cons_succ]
  refine wpAnyH_take (i := 9) (oi := { dst := some 36, op := Op.move (Operand.tmp 35), type := 4, pos := "object.go:95", after := #[{ on := 8, ground := Ground.data }, { on := 5, ground := Ground.chain }, { on := 3, ground := Ground.guard }], guard := some (3, false) }) (v := ?vvr3n9) rfl (by kernel_rfl) (by kernel_rfl) (by kernel_rfl) (fun _ _ _ h => h) (Or.inl ⟨by rfl, ?hyr3n9⟩) (by assumption) ?restr3n9
  case hyr3n9 => (intro w hSw; (try dsimp only at hSw); go_simp; try with_reducible rfl)
  simp only [Act.put, List.setIfInBounds_toArray, List.set_cons_zero, List.set_cons_succ]
  refine wpAnyH_take (i := 10) (oi := { dst := some 37, op := Op.load 35 (Operand.tmp 2), type := 35, pos := "object.go:95", after := #[{ on := 9, ground := Ground.guard }], guard := some (9, true) }) (v := ?vvr3n10) rfl (by kernel_rfl) (by kernel_rfl) (by kernel_rfl) (fun _ _ _ h => h) (Or.inl ⟨by rfl, ?hyr3n10⟩) (by assumption) ?restr3n10
  case hyr3n10 => (intro w hSw; (try dsimp only at hSw); go_simp; try with_reducible rfl)
  simp only [Act.put, List.setIfInBounds_toArray, List.set_cons_zero, List.set_cons_succ]
  refine wpAnyH_take (i := 12) (oi := { dst := some 39, op := Op.fieldAddr 35 (Operand.tmp 2) 10, type := 0, pos := "object.go:95", after := #[{ on := 9, ground := Ground.guard }], guard := some (9, true) }) (v := ?vvr3n12) rfl (by kernel_rfl) (by kernel_rfl) (by kernel_rfl) (fun _ _ _ h => h) (Or.inl ⟨by rfl, ?hyr3n12⟩) (by assumption) ?restr3n12
  case hyr3n12 => (intro w hSw; (try dsimp only at hSw); go_simp; try with_reducible rfl)
  simp only [Act.put, List.setIfInBounds_toArray, List.set_cons_zero, List.set_cons_succ]
  refine wpAnyH_take (i := 13) (oi := { dst := some 40, op := Op.load 2 (Operand.tmp 39), type := 2, pos := "object.go:95", after := #[{ on := 12, ground := Ground.data }, { on := 9, ground := Ground.guard }], guard := some (9, true) }) (v := ?vvr3n13) rfl (by kernel_rfl) (by kernel_rfl) (by kernel_rfl) (fun _ _ _ h => h) (Or.inl ⟨by rfl, ?hyr3n13⟩) (by assumption) ?restr3n13
  case hyr3n13 => (intro w hSw; (try dsimp only at hSw); go_simp; try with_reducible rfl)
  simp only [Act.put, List.setIfInBounds_toArray, List.set_cons_zero, List.set_cons_succ]
  refine wpAnyH_ready (rs := [11]) (by kernel_rfl) (by simp) ?_
  refine AllReadyH.cons (o := { dst := some 38, op := Op.call { callee := Callee.value (Operand.func 59), args := #[Operand.tmp 37], argTypes := #[35] }, type := 76, pos := "object.go:95", after := #[{ on := 10, ground := Ground.data }, { on := 9, ground := Ground.chain }, { on := 9, ground := Ground.guard }], guard := some (9, true) }) rfl (fun K hK => ?_) AllReadyH.nil
  go_simp
  refine (C6 _).out.mono ?_
  rintro e w3 ⟨rfl, k3⟩
  go_wp2_with fail
  refine hK.out _ _ ⟨(mO.then (keepD hHeld1 k3)).c, keepD hHeld1 k3⟩ (fun hHeld2 => ?_)
  clear hK K hHeld1
  try simp only [Act.put, List.setIfInBounds_toArray, List.set_cons_zero, List.set_cons_succ]
  refine wpAnyH_ready (rs := [14]) (by kernel_rfl) (by simp) ?_
  refine AllReadyH.cons (o := { dst := some 41, op := Op.call { callee := Callee.value (Operand.func 60), args := #[Operand.tmp 38, Operand.tmp 40], argTypes := #[76, 2] }, type := 4, pos := "object.go:95", after := #[{ on := 11, ground := Ground.data }, { on := 13, ground := Ground.data }, { on := 11, ground := Ground.chain }, { on := 9, ground := Ground.guard }], guard := some (9, true) }) rfl (fun K hK => ?_) AllReadyH.nil
  go_simp
  refine (C7 _).out.mono ?_
  rintro e w3 ⟨rfl, k3⟩
  go_wp2_with fail
  refine hK.out _ _ ⟨(mO.then (keepD hHeld2 k3)).c, keepD hHeld2 k3⟩ (fun hHeld3 => ?_)
  clear hK K hHeld2
  try simp only [Act.put, List.setIfInBounds_toArray, List.set_cons_zero, List.set_cons_succ]
  refine wpAnyH_take (i := 15) (oi := { dst := some 42, op := Op.unOp UnOp.not 4 (Operand.tmp 41), type := 4, pos := "object.go:95", after := #[{ on := 14, ground := Ground.data }, { on := 9, ground := Ground.guard }], guard := some (9, true) }) (v := ?vvr3n15) rfl (by kernel_rfl) (by kernel_rfl) (by kernel_rfl) (fun _ _ _ h => h) (Or.inl ⟨by rfl, ?hyr3n15⟩) (by assumption) ?restr3n15
  case hyr3n15 => (intro w hSw; (try dsimp only at hSw); go_simp; try with_reducible rfl)
  simp only [Act.put, List.setIfInBounds_toArray, List.set_cons_zero, List.set_cons_succ]
  refine wpAnyH_take (i := 16) (oi := { dst := some 43, op := Op.pick (Operand.tmp 36) (Operand.tmp 42) (Operand.const (Value.bool false)), type := 4, pos := "object.go:95", after := #[{ on := 9, ground := Ground.data }, { on := 15, ground := Ground.data }, { on := 3, ground := Ground.guard }], guard := some (3, false) }) (v := ?vvr3n16) rfl (by kernel_rfl) (by kernel_rfl) (by kernel_rfl) (fun _ _ _ h => h) (Or.inl ⟨by rfl, ?hyr3n16⟩) (by assumption) ?restr3n16
  case hyr3n16 => (intro w hSw; (try dsimp only at hSw); go_simp; try with_reducible rfl)
  simp only [Act.put, List.setIfInBounds_toArray, List.set_cons_zero, List.set_cons_succ]
  refine wpAnyH_take (i := 17) (oi := { dst := some 44, op := Op.pick (Operand.tmp 30) (Operand.const (Value.bool true)) (Operand.tmp 43), type := 4, pos := "object.go:95", after := #[{ on := 3, ground := Ground.data }, { on := 16, ground := Ground.data }], guard := none }) (v := ?vvr3n17) rfl (by kernel_rfl) (by kernel_rfl) (by kernel_rfl) (fun _ _ _ h => h) (Or.inl ⟨by rfl, ?hyr3n17⟩) (by assumption) ?restr3n17
  case hyr3n17 => (intro w hSw; (try dsimp only at hSw); go_simp; try with_reducible rfl)
  simp only [Act.put, List.setIfInBounds_toArray, List.set_cons_zero, List.set_cons_succ]
  refine wpAnyH_take (i := 18) (oi := { dst := some 26, op := Op.assign (Operand.tmp 44), type := 4, pos := "object.go:95", after := #[{ on := 17, ground := Ground.data }, { on := 14, ground := Ground.chain }], guard := none }) (v := ?vvr3n18) rfl (by kernel_rfl) (by kernel_rfl) (by kernel_rfl) (fun _ _ _ h => h) (Or.inl ⟨by rfl, ?hyr3n18⟩) (by assumption) ?restr3n18
  case hyr3n18 => (intro w hSw; (try dsimp only at hSw); go_simp; try with_reducible rfl)
  simp only [Act.put, List.setIfInBounds_toArray, List.set_cons_zero, List.set_cons_succ]
  refine wpAnyH_done (by kernel_rfl) ?_ _
  go_wp2_with fail
  go_ret
  exact ⟨rfl, bThen hb hHeld3.2⟩
set_option maxHeartbeats 8000000 in
theorem fault_in_f (o : Ob) (whole : Bool) (w : World) (h : Meets o w) (hf : fitsB o = true) (hm : HL.mayB o.handle = true) (hn : namedB o = true) (hc : countsObB o = true) (ho : orderedB o = true) (hz : o.has = true) (hh : hasB o.lo o.hi o.value = false) :
    Calls Tryz.prog 41 #[ob o, .bool true] w fun e w' => e = .returned (.int .i64 30) ∧ Below w.heap.size w w' := by
  have hb : Below w.heap.size w w := Below.refl _ _
  have C1 := Lib.hid (fun W (k : Below w.heap.size w W) => hf ▸ fits_meets (h.then k))
  have C2 := fun W => Lib.hid (hm ▸ HL.may_any o.handle W h.handle)
  have C3 := Lib.hid (fun W (k : Below w.heap.size w W) => hn ▸ named_meets (h.then k) hf)
  have C4 := fun W => Lib.hid (hc ▸ countsOb_any o W)
  have C5 := fun W => Lib.hid (ho ▸ ordered_any o W)
  have C6 := fun W => Lib.hid (rangeOf_any o W)
  have C7 := fun W => Lib.hid (hh ▸ has_any o.lo o.hi o.value W)
  clear h hf hm hn hc ho hh
  obtain ⟨xh, xk, xp, xt, xr, xlo, xhi, xd, xon, xhas, xv, xlw, xhg, xa⟩ := o
  dsimp only at *
  subst hz
  go_enter Tryz.func41, Tryz.ntmps41
  go_wp2_with fail
  go_at_call 54
  refine (C1.out _ (bAl hb _)).mono ?_
  rintro e W0 ⟨rfl, k⟩
  replace hb := bThen (bAl hb _) k
  have mO := (AtC.new _ _ _).then k
  have oc := mO.c
  go_wp2_with (first
    | (go_at_call 55; ((with_reducible refine (C2 _).out.mono ?_); rintro e W0 ⟨rfl, k⟩; replace hb := bThen hb k; replace mO := mO.then k; have oc := mO.c))
    | (go_at_call 56; ((with_reducible refine (C3.out _ hb).mono ?_); rintro e W0 ⟨rfl, k⟩; replace hb := bThen hb k; replace mO := mO.then k; have oc := mO.c))
    | (go_at_call 57; ((with_reducible refine (C4 _).out.mono ?_); rintro e W0 ⟨rfl, k⟩; replace hb := bThen hb k; replace mO := mO.then k; have oc := mO.c)))
  clear oc
  refine wp_region_held_drew (S := fun w' => (∀ i, w'.cell? ⟨w.heap.size, i, none⟩ = (obCells ⟨xh, xk, xp, xt, xr, xlo, xhi, xd, xon, true, xv, xlw, xhg, xa⟩)[i]?) ∧ Below W0.heap.size W0 w') (by kernel_rfl) ⟨(mO.drew1).c, (Below.refl _ _).drew⟩ (fun hHeld0 => ?_)
  refine wpAnyH_take (i := 0) (oi := { dst := some 27, op := Op.load 35 (Operand.tmp 2), type := 35, pos := "object.go:95", after := #[], guard := none }) (v := ?vvr4n0) rfl (by kernel_rfl) (by kernel_rfl) (by kernel_rfl) (fun _ _ _ h => h) (Or.inl ⟨by rfl, ?hyr4n0⟩) (by assumption) ?restr4n0
  case hyr4n0 => (intro w hSw; (try dsimp only at hSw); go_simp; try with_reducible rfl)
  simp only [Act.put, List.setIfInBounds_toArray, List.set_cons_zero, List.set_cons_succ]
  refine wpAnyH_ready (rs := [1]) (by kernel_rfl) (by simp) ?_
  refine AllReadyH.cons (o := { dst := some 28, op := Op.call { callee := Callee.value (Operand.func 58), args := #[Operand.tmp 27], argTypes := #[35] }, type := 4, pos := "object.go:95", after := #[{ on := 0, ground := Ground.data }], guard := none }) rfl (fun K hK => ?_) AllReadyH.nil
  go_simp
  refine (C5 _).out.mono ?_
  rintro e w3 ⟨rfl, k3⟩
  go_wp2_with fail
  refine hK.out _ _ ⟨(mO.then (keepD hHeld0 k3)).c, keepD hHeld0 k3⟩ (fun hHeld1 => ?_)
  clear hK K hHeld0
  try simp only [Act.put, List.setIfInBounds_toArray, List.set_cons_zero, List.set_cons_succ]
  refine wpAnyH_take (i := 2) (oi := { dst := some 29, op := Op.unOp UnOp.not 4 (Operand.tmp 28), type := 4, pos := "object.go:95", after := #[{ on := 1, ground := Ground.data }], guard := none }) (v := ?vvr4n2) rfl (by kernel_rfl) (by kernel_rfl) (by kernel_rfl) (fun _ _ _ h => h) (Or.inl ⟨by rfl, ?hyr4n2⟩) (by assumption) ?restr4n2
  case hyr4n2 => (intro w hSw; (try dsimp only at hSw); go_simp; try with_reducible rfl)
  simp only [Act.put, List.setIfInBounds_toArray, List.set_cons_zero, List.set_cons_succ]
  refine wpAnyH_take (i := 3) (oi := { dst := some 30, op := Op.move (Operand.tmp 29), type := 4, pos := "object.go:95", after := #[{ on := 2, ground := Ground.data }, { on := 1, ground := Ground.chain }], guard := none }) (v := ?vvr4n3) rfl (by kernel_rfl) (by kernel_rfl) (by kernel_rfl) (fun _ _ _ h => h) (Or.inl ⟨by rfl, ?hyr4n3⟩) (by assumption) ?restr4n3
  case hyr4n3 => (intro w hSw; (try dsimp only at hSw); go_simp; try with_reducible rfl)
  simp only [Act.put, List.setIfInBounds_toArray, List.set_cons_zero, List.set_cons_succ]
  refine wpAnyH_take (i := 4) (oi := { dst := some 31, op := Op.move (Operand.tmp 1), type := 4, pos := "object.go:95", after := #[{ on := 3, ground := Ground.guard }], guard := some (3, false) }) (v := ?vvr4n4) rfl (by kernel_rfl) (by kernel_rfl) (by kernel_rfl) (fun _ _ _ h => h) (Or.inl ⟨by rfl, ?hyr4n4⟩) (by assumption) ?restr4n4
  case hyr4n4 => (intro w hSw; (try dsimp only at hSw); go_simp; try with_reducible rfl)
  simp only [Act.put, List.setIfInBounds_toArray, List.set_cons_zero, List.set_cons_succ]
  refine wpAnyH_take (i := 5) (oi := { dst := some 32, op := Op.move (Operand.tmp 31), type := 4, pos := "object.go:95", after := #[{ on := 4, ground := Ground.data }, { on := 3, ground := Ground.chain }, { on := 3, ground := Ground.guard }], guard := some (3, false) }) (v := ?vvr4n5) rfl (by kernel_rfl) (by kernel_rfl) (by kernel_rfl) (fun _ _ _ h => h) (Or.inl ⟨by rfl, ?hyr4n5⟩) (by assumption) ?restr4n5
  case hyr4n5 => (intro w hSw; (try dsimp only at hSw); go_simp; try with_reducible rfl)
  simp only [Act.put, List.setIfInBounds_toArray, List.set_cons_zero, List.set_cons_succ]
  refine wpAnyH_take (i := 6) (oi := { dst := some 33, op := Op.fieldAddr 35 (Operand.tmp 2) 9, type := 0, pos := "object.go:95", after := #[{ on := 5, ground := Ground.guard }], guard := some (5, true) }) (v := ?vvr4n6) rfl (by kernel_rfl) (by kernel_rfl) (by kernel_rfl) (fun _ _ _ h => h) (Or.inl ⟨by rfl, ?hyr4n6⟩) (by assumption) ?restr4n6
  case hyr4n6 => (intro w hSw; (try dsimp only at hSw); go_simp; try with_reducible rfl)
  simp only [Act.put, List.setIfInBounds_toArray, List.set_cons_zero, List.set_cons_succ]
  refine wpAnyH_take (i := 7) (oi := { dst := some 34, op := Op.load 4 (Operand.tmp 33), type := 4, pos := "object.go:95", after := #[{ on := 6, ground := Ground.data }, { on := 5, ground := Ground.guard }], guard := some (5, true) }) (v := ?vvr4n7) rfl (by kernel_rfl) (by kernel_rfl) (by kernel_rfl) (fun _ _ _ h => h) (Or.inl ⟨by rfl, ?hyr4n7⟩) (by assumption) ?restr4n7
  case hyr4n7 => (intro w hSw; (try dsimp only at hSw); go_simp; try with_reducible rfl)
  simp only [Act.put, List.setIfInBounds_toArray, List.set_cons_zero, List.set_cons_succ]
  refine wpAnyH_take (i := 8) (oi := { dst := some 35, op := Op.pick (Operand.tmp 32) (Operand.tmp 34) (Operand.const (Value.bool false)), type := 4, pos := "object.go:95", after := #[{ on := 5, ground := Ground.data }, { on := 7, ground := Ground.data }, { on := 3, ground := Ground.guard }], guard := some (3, false) }) (v := ?vvr4n8) rfl (by kernel_rfl) (by kernel_rfl) (by kernel_rfl) (fun _ _ _ h => h) (Or.inl ⟨by rfl, ?hyr4n8⟩) (by assumption) ?restr4n8
  case hyr4n8 => (intro w hSw; (try dsimp only at hSw); go_simp; try with_reducible rfl)
  simp only [Act.put, List.setIfInBounds_toArray, List.set_cons_zero, List.set_cons_succ]
  refine wpAnyH_take (i := 9) (oi := { dst := some 36, op := Op.move (Operand.tmp 35), type := 4, pos := "object.go:95", after := #[{ on := 8, ground := Ground.data }, { on := 5, ground := Ground.chain }, { on := 3, ground := Ground.guard }], guard := some (3, false) }) (v := ?vvr4n9) rfl (by kernel_rfl) (by kernel_rfl) (by kernel_rfl) (fun _ _ _ h => h) (Or.inl ⟨by rfl, ?hyr4n9⟩) (by assumption) ?restr4n9
  case hyr4n9 => (intro w hSw; (try dsimp only at hSw); go_simp; try with_reducible rfl)
  simp only [Act.put, List.setIfInBounds_toArray, List.set_cons_zero, List.set_cons_succ]
  refine wpAnyH_take (i := 10) (oi := { dst := some 37, op := Op.load 35 (Operand.tmp 2), type := 35, pos := "object.go:95", after := #[{ on := 9, ground := Ground.guard }], guard := some (9, true) }) (v := ?vvr4n10) rfl (by kernel_rfl) (by kernel_rfl) (by kernel_rfl) (fun _ _ _ h => h) (Or.inl ⟨by rfl, ?hyr4n10⟩) (by assumption) ?restr4n10
  case hyr4n10 => (intro w hSw; (try dsimp only at hSw); go_simp; try with_reducible rfl)
  simp only [Act.put, List.setIfInBounds_toArray, List.set_cons_zero, List.set_cons_succ]
  refine wpAnyH_take (i := 12) (oi := { dst := some 39, op := Op.fieldAddr 35 (Operand.tmp 2) 10, type := 0, pos := "object.go:95", after := #[{ on := 9, ground := Ground.guard }], guard := some (9, true) }) (v := ?vvr4n12) rfl (by kernel_rfl) (by kernel_rfl) (by kernel_rfl) (fun _ _ _ h => h) (Or.inl ⟨by rfl, ?hyr4n12⟩) (by assumption) ?restr4n12
  case hyr4n12 => (intro w hSw; (try dsimp only at hSw); go_simp; try with_reducible rfl)
  simp only [Act.put, List.setIfInBounds_toArray, List.set_cons_zero, List.set_cons_succ]
  refine wpAnyH_take (i := 13) (oi := { dst := some 40, op := Op.load 2 (Operand.tmp 39), type := 2, pos := "object.go:95", after := #[{ on := 12, ground := Ground.data }, { on := 9, ground := Ground.guard }], guard := some (9, true) }) (v := ?vvr4n13) rfl (by kernel_rfl) (by kernel_rfl) (by kernel_rfl) (fun _ _ _ h => h) (Or.inl ⟨by rfl, ?hyr4n13⟩) (by assumption) ?restr4n13
  case hyr4n13 => (intro w hSw; (try dsimp only at hSw); go_simp; try with_reducible rfl)
  simp only [Act.put, List.setIfInBounds_toArray, List.set_cons_zero, List.set_cons_succ]
  refine wpAnyH_ready (rs := [11]) (by kernel_rfl) (by simp) ?_
  refine AllReadyH.cons (o := { dst := some 38, op := Op.call { callee := Callee.value (Operand.func 59), args := #[Operand.tmp 37], argTypes := #[35] }, type := 76, pos := "object.go:95", after := #[{ on := 10, ground := Ground.data }, { on := 9, ground := Ground.chain }, { on := 9, ground := Ground.guard }], guard := some (9, true) }) rfl (fun K hK => ?_) AllReadyH.nil
  go_simp
  refine (C6 _).out.mono ?_
  rintro e w3 ⟨rfl, k3⟩
  go_wp2_with fail
  refine hK.out _ _ ⟨(mO.then (keepD hHeld1 k3)).c, keepD hHeld1 k3⟩ (fun hHeld2 => ?_)
  clear hK K hHeld1
  try simp only [Act.put, List.setIfInBounds_toArray, List.set_cons_zero, List.set_cons_succ]
  refine wpAnyH_ready (rs := [14]) (by kernel_rfl) (by simp) ?_
  refine AllReadyH.cons (o := { dst := some 41, op := Op.call { callee := Callee.value (Operand.func 60), args := #[Operand.tmp 38, Operand.tmp 40], argTypes := #[76, 2] }, type := 4, pos := "object.go:95", after := #[{ on := 11, ground := Ground.data }, { on := 13, ground := Ground.data }, { on := 11, ground := Ground.chain }, { on := 9, ground := Ground.guard }], guard := some (9, true) }) rfl (fun K hK => ?_) AllReadyH.nil
  go_simp
  refine (C7 _).out.mono ?_
  rintro e w3 ⟨rfl, k3⟩
  go_wp2_with fail
  refine hK.out _ _ ⟨(mO.then (keepD hHeld2 k3)).c, keepD hHeld2 k3⟩ (fun hHeld3 => ?_)
  clear hK K hHeld2
  try simp only [Act.put, List.setIfInBounds_toArray, List.set_cons_zero, List.set_cons_succ]
  refine wpAnyH_take (i := 15) (oi := { dst := some 42, op := Op.unOp UnOp.not 4 (Operand.tmp 41), type := 4, pos := "object.go:95", after := #[{ on := 14, ground := Ground.data }, { on := 9, ground := Ground.guard }], guard := some (9, true) }) (v := ?vvr4n15) rfl (by kernel_rfl) (by kernel_rfl) (by kernel_rfl) (fun _ _ _ h => h) (Or.inl ⟨by rfl, ?hyr4n15⟩) (by assumption) ?restr4n15
  case hyr4n15 => (intro w hSw; (try dsimp only at hSw); go_simp; try with_reducible rfl)
  simp only [Act.put, List.setIfInBounds_toArray, List.set_cons_zero, List.set_cons_succ]
  refine wpAnyH_take (i := 16) (oi := { dst := some 43, op := Op.pick (Operand.tmp 36) (Operand.tmp 42) (Operand.const (Value.bool false)), type := 4, pos := "object.go:95", after := #[{ on := 9, ground := Ground.data }, { on := 15, ground := Ground.data }, { on := 3, ground := Ground.guard }], guard := some (3, false) }) (v := ?vvr4n16) rfl (by kernel_rfl) (by kernel_rfl) (by kernel_rfl) (fun _ _ _ h => h) (Or.inl ⟨by rfl, ?hyr4n16⟩) (by assumption) ?restr4n16
  case hyr4n16 => (intro w hSw; (try dsimp only at hSw); go_simp; try with_reducible rfl)
  simp only [Act.put, List.setIfInBounds_toArray, List.set_cons_zero, List.set_cons_succ]
  refine wpAnyH_take (i := 17) (oi := { dst := some 44, op := Op.pick (Operand.tmp 30) (Operand.const (Value.bool true)) (Operand.tmp 43), type := 4, pos := "object.go:95", after := #[{ on := 3, ground := Ground.data }, { on := 16, ground := Ground.data }], guard := none }) (v := ?vvr4n17) rfl (by kernel_rfl) (by kernel_rfl) (by kernel_rfl) (fun _ _ _ h => h) (Or.inl ⟨by rfl, ?hyr4n17⟩) (by assumption) ?restr4n17
  case hyr4n17 => (intro w hSw; (try dsimp only at hSw); go_simp; try with_reducible rfl)
  simp only [Act.put, List.setIfInBounds_toArray, List.set_cons_zero, List.set_cons_succ]
  refine wpAnyH_take (i := 18) (oi := { dst := some 26, op := Op.assign (Operand.tmp 44), type := 4, pos := "object.go:95", after := #[{ on := 17, ground := Ground.data }, { on := 14, ground := Ground.chain }], guard := none }) (v := ?vvr4n18) rfl (by kernel_rfl) (by kernel_rfl) (by kernel_rfl) (fun _ _ _ h => h) (Or.inl ⟨by rfl, ?hyr4n18⟩) (by assumption) ?restr4n18
  case hyr4n18 => (intro w hSw; (try dsimp only at hSw); go_simp; try with_reducible rfl)
  simp only [Act.put, List.setIfInBounds_toArray, List.set_cons_zero, List.set_cons_succ]
  refine wpAnyH_done (by kernel_rfl) ?_ _
  go_wp2_with fail
  go_ret
  exact ⟨rfl, bThen hb hHeld3.2⟩
set_option maxHeartbeats 8000000 in
theorem fault_order_f (o : Ob) (whole : Bool) (w : World) (h : Meets o w) (hf : fitsB o = true) (hm : HL.mayB o.handle = true) (hc : countsObB o = true) (ho : orderedB o = false) :
    Calls Tryz.prog 41 #[ob o, .bool false] w fun e w' => e = .returned (.int .i64 30) ∧ Below w.heap.size w w' := by
  have hb : Below w.heap.size w w := Below.refl _ _
  have C1 := Lib.hid (fun W (k : Below w.heap.size w W) => hf ▸ fits_meets (h.then k))
  have C2 := fun W => Lib.hid (hm ▸ HL.may_any o.handle W h.handle)
  have C4 := fun W => Lib.hid (hc ▸ countsOb_any o W)
  have C5 := fun W => Lib.hid (ho ▸ ordered_any o W)
  have C6 := fun W => Lib.hid (rangeOf_any o W)
  have C7 := fun W => Lib.hid (has_any o.lo o.hi o.value W)
  generalize hasB o.lo o.hi o.value = hs at *
  clear h hf hm
  go_enter Tryz.func41, Tryz.ntmps41
  go_wp2_with fail
  go_at_call 54
  refine (C1.out _ (bAl hb _)).mono ?_
  rintro e W0 ⟨rfl, k⟩
  replace hb := bThen (bAl hb _) k
  have mO := (AtC.new _ _ _).then k
  have oc := mO.c
  go_wp2_with (first
    | (go_at_call 55; ((with_reducible refine (C2 _).out.mono ?_); rintro e W0 ⟨rfl, k⟩; replace hb := bThen hb k; replace mO := mO.then k; have oc := mO.c))
    | (go_at_call 56; ((with_reducible refine (C3.out _ hb).mono ?_); rintro e W0 ⟨rfl, k⟩; replace hb := bThen hb k; replace mO := mO.then k; have oc := mO.c))
    | (go_at_call 57; ((with_reducible refine (C4 _).out.mono ?_); rintro e W0 ⟨rfl, k⟩; replace hb := bThen hb k; replace mO := mO.then k; have oc := mO.c)))
  clear oc
  refine wp_region_held_drew (S := fun w' => (∀ i, w'.cell? ⟨w.heap.size, i, none⟩ = (obCells o)[i]?) ∧ Below W0.heap.size W0 w') (by kernel_rfl) ⟨(mO.drew1).c, (Below.refl _ _).drew⟩ (fun hHeld0 => ?_)
  refine wpAnyH_take (i := 0) (oi := { dst := some 27, op := Op.load 35 (Operand.tmp 2), type := 35, pos := "object.go:95", after := #[], guard := none }) (v := ?vvr5n0) rfl (by kernel_rfl) (by kernel_rfl) (by kernel_rfl) (fun _ _ _ h => h) (Or.inl ⟨by rfl, ?hyr5n0⟩) (by assumption) ?restr5n0
  case hyr5n0 => (intro w hSw; (try dsimp only at hSw); go_simp; try with_reducible rfl)
  simp only [Act.put, List.setIfInBounds_toArray, List.set_cons_zero, List.set_cons_succ]
  refine wpAnyH_ready (rs := [1]) (by kernel_rfl) (by simp) ?_
  refine AllReadyH.cons (o := { dst := some 28, op := Op.call { callee := Callee.value (Operand.func 58), args := #[Operand.tmp 27], argTypes := #[35] }, type := 4, pos := "object.go:95", after := #[{ on := 0, ground := Ground.data }], guard := none }) rfl (fun K hK => ?_) AllReadyH.nil
  go_simp
  refine (C5 _).out.mono ?_
  rintro e w3 ⟨rfl, k3⟩
  go_wp2_with fail
  refine hK.out _ _ ⟨(mO.then (keepD hHeld0 k3)).c, keepD hHeld0 k3⟩ (fun hHeld1 => ?_)
  clear hK K hHeld0
  try simp only [Act.put, List.setIfInBounds_toArray, List.set_cons_zero, List.set_cons_succ]
  refine wpAnyH_take (i := 2) (oi := { dst := some 29, op := Op.unOp UnOp.not 4 (Operand.tmp 28), type := 4, pos := "object.go:95", after := #[{ on := 1, ground := Ground.data }], guard := none }) (v := ?vvr5n2) rfl (by kernel_rfl) (by kernel_rfl) (by kernel_rfl) (fun _ _ _ h => h) (Or.inl ⟨by rfl, ?hyr5n2⟩) (by assumption) ?restr5n2
  case hyr5n2 => (intro w hSw; (try dsimp only at hSw); go_simp; try with_reducible rfl)
  simp only [Act.put, List.setIfInBounds_toArray, List.set_cons_zero, List.set_cons_succ]
  refine wpAnyH_take (i := 3) (oi := { dst := some 30, op := Op.move (Operand.tmp 29), type := 4, pos := "object.go:95", after := #[{ on := 2, ground := Ground.data }, { on := 1, ground := Ground.chain }], guard := none }) (v := ?vvr5n3) rfl (by kernel_rfl) (by kernel_rfl) (by kernel_rfl) (fun _ _ _ h => h) (Or.inl ⟨by rfl, ?hyr5n3⟩) (by assumption) ?restr5n3
  case hyr5n3 => (intro w hSw; (try dsimp only at hSw); go_simp; try with_reducible rfl)
  simp only [Act.put, List.setIfInBounds_toArray, List.set_cons_zero, List.set_cons_succ]
  refine wpAnyH_take (i := 4) (oi := { dst := some 31, op := Op.move (Operand.tmp 1), type := 4, pos := "object.go:95", after := #[{ on := 3, ground := Ground.guard }], guard := some (3, false) }) (v := undef) rfl (by kernel_rfl) (by kernel_rfl) (by kernel_rfl) (fun _ _ _ h => h) (Or.inr ⟨by rfl, rfl⟩) (by assumption) ?_
  simp only [Act.put, List.setIfInBounds_toArray, List.set_cons_zero, List.set_cons_succ]
  refine wpAnyH_take (i := 5) (oi := { dst := some 32, op := Op.move (Operand.tmp 31), type := 4, pos := "object.go:95", after := #[{ on := 4, ground := Ground.data }, { on := 3, ground := Ground.chain }, { on := 3, ground := Ground.guard }], guard := some (3, false) }) (v := undef) rfl (by kernel_rfl) (by kernel_rfl) (by kernel_rfl) (fun _ _ _ h => h) (Or.inr ⟨by rfl, rfl⟩) (by assumption) ?_
  simp only [Act.put, List.setIfInBounds_toArray, List.set_cons_zero, List.set_cons_succ]
  refine wpAnyH_take (i := 6) (oi := { dst := some 33, op := Op.fieldAddr 35 (Operand.tmp 2) 9, type := 0, pos := "object.go:95", after := #[{ on := 5, ground := Ground.guard }], guard := some (5, true) }) (v := undef) rfl (by kernel_rfl) (by kernel_rfl) (by kernel_rfl) (fun _ _ _ h => h) (Or.inr ⟨by rfl, rfl⟩) (by assumption) ?_
  simp only [Act.put, List.setIfInBounds_toArray, List.set_cons_zero, List.set_cons_succ]
  refine wpAnyH_take (i := 7) (oi := { dst := some 34, op := Op.load 4 (Operand.tmp 33), type := 4, pos := "object.go:95", after := #[{ on := 6, ground := Ground.data }, { on := 5, ground := Ground.guard }], guard := some (5, true) }) (v := undef) rfl (by kernel_rfl) (by kernel_rfl) (by kernel_rfl) (fun _ _ _ h => h) (Or.inr ⟨by rfl, rfl⟩) (by assumption) ?_
  simp only [Act.put, List.setIfInBounds_toArray, List.set_cons_zero, List.set_cons_succ]
  refine wpAnyH_take (i := 8) (oi := { dst := some 35, op := Op.pick (Operand.tmp 32) (Operand.tmp 34) (Operand.const (Value.bool false)), type := 4, pos := "object.go:95", after := #[{ on := 5, ground := Ground.data }, { on := 7, ground := Ground.data }, { on := 3, ground := Ground.guard }], guard := some (3, false) }) (v := undef) rfl (by kernel_rfl) (by kernel_rfl) (by kernel_rfl) (fun _ _ _ h => h) (Or.inr ⟨by rfl, rfl⟩) (by assumption) ?_
  simp only [Act.put, List.setIfInBounds_toArray, List.set_cons_zero, List.set_cons_succ]
  refine wpAnyH_take (i := 9) (oi := { dst := some 36, op := Op.move (Operand.tmp 35), type := 4, pos := "object.go:95", after := #[{ on := 8, ground := Ground.data }, { on := 5, ground := Ground.chain }, { on := 3, ground := Ground.guard }], guard := some (3, false) }) (v := undef) rfl (by kernel_rfl) (by kernel_rfl) (by kernel_rfl) (fun _ _ _ h => h) (Or.inr ⟨by rfl, rfl⟩) (by assumption) ?_
  simp only [Act.put, List.setIfInBounds_toArray, List.set_cons_zero, List.set_cons_succ]
  refine wpAnyH_take (i := 10) (oi := { dst := some 37, op := Op.load 35 (Operand.tmp 2), type := 35, pos := "object.go:95", after := #[{ on := 9, ground := Ground.guard }], guard := some (9, true) }) (v := undef) rfl (by kernel_rfl) (by kernel_rfl) (by kernel_rfl) (fun _ _ _ h => h) (Or.inr ⟨by rfl, rfl⟩) (by assumption) ?_
  simp only [Act.put, List.setIfInBounds_toArray, List.set_cons_zero, List.set_cons_succ]
  refine wpAnyH_take (i := 11) (oi := { dst := some 38, op := Op.call { callee := Callee.value (Operand.func 59), args := #[Operand.tmp 37], argTypes := #[35] }, type := 76, pos := "object.go:95", after := #[{ on := 10, ground := Ground.data }, { on := 9, ground := Ground.chain }, { on := 9, ground := Ground.guard }], guard := some (9, true) }) (v := undef) rfl (by kernel_rfl) (by kernel_rfl) (by kernel_rfl) (fun _ _ _ h => h) (Or.inr ⟨by rfl, rfl⟩) (by assumption) ?_
  simp only [Act.put, List.setIfInBounds_toArray, List.set_cons_zero, List.set_cons_succ]
  refine wpAnyH_take (i := 12) (oi := { dst := some 39, op := Op.fieldAddr 35 (Operand.tmp 2) 10, type := 0, pos := "object.go:95", after := #[{ on := 9, ground := Ground.guard }], guard := some (9, true) }) (v := undef) rfl (by kernel_rfl) (by kernel_rfl) (by kernel_rfl) (fun _ _ _ h => h) (Or.inr ⟨by rfl, rfl⟩) (by assumption) ?_
  simp only [Act.put, List.setIfInBounds_toArray, List.set_cons_zero, List.set_cons_succ]
  refine wpAnyH_take (i := 13) (oi := { dst := some 40, op := Op.load 2 (Operand.tmp 39), type := 2, pos := "object.go:95", after := #[{ on := 12, ground := Ground.data }, { on := 9, ground := Ground.guard }], guard := some (9, true) }) (v := undef) rfl (by kernel_rfl) (by kernel_rfl) (by kernel_rfl) (fun _ _ _ h => h) (Or.inr ⟨by rfl, rfl⟩) (by assumption) ?_
  simp only [Act.put, List.setIfInBounds_toArray, List.set_cons_zero, List.set_cons_succ]
  refine wpAnyH_take (i := 14) (oi := { dst := some 41, op := Op.call { callee := Callee.value (Operand.func 60), args := #[Operand.tmp 38, Operand.tmp 40], argTypes := #[76, 2] }, type := 4, pos := "object.go:95", after := #[{ on := 11, ground := Ground.data }, { on := 13, ground := Ground.data }, { on := 11, ground := Ground.chain }, { on := 9, ground := Ground.guard }], guard := some (9, true) }) (v := undef) rfl (by kernel_rfl) (by kernel_rfl) (by kernel_rfl) (fun _ _ _ h => h) (Or.inr ⟨by rfl, rfl⟩) (by assumption) ?_
  simp only [Act.put, List.setIfInBounds_toArray, List.set_cons_zero, List.set_cons_succ]
  refine wpAnyH_take (i := 15) (oi := { dst := some 42, op := Op.unOp UnOp.not 4 (Operand.tmp 41), type := 4, pos := "object.go:95", after := #[{ on := 14, ground := Ground.data }, { on := 9, ground := Ground.guard }], guard := some (9, true) }) (v := undef) rfl (by kernel_rfl) (by kernel_rfl) (by kernel_rfl) (fun _ _ _ h => h) (Or.inr ⟨by rfl, rfl⟩) (by assumption) ?_
  simp only [Act.put, List.setIfInBounds_toArray, List.set_cons_zero, List.set_cons_succ]
  refine wpAnyH_take (i := 16) (oi := { dst := some 43, op := Op.pick (Operand.tmp 36) (Operand.tmp 42) (Operand.const (Value.bool false)), type := 4, pos := "object.go:95", after := #[{ on := 9, ground := Ground.data }, { on := 15, ground := Ground.data }, { on := 3, ground := Ground.guard }], guard := some (3, false) }) (v := undef) rfl (by kernel_rfl) (by kernel_rfl) (by kernel_rfl) (fun _ _ _ h => h) (Or.inr ⟨by rfl, rfl⟩) (by assumption) ?_
  simp only [Act.put, List.setIfInBounds_toArray, List.set_cons_zero, List.set_cons_succ]
  refine wpAnyH_take (i := 17) (oi := { dst := some 44, op := Op.pick (Operand.tmp 30) (Operand.const (Value.bool true)) (Operand.tmp 43), type := 4, pos := "object.go:95", after := #[{ on := 3, ground := Ground.data }, { on := 16, ground := Ground.data }], guard := none }) (v := ?vvr5n17) rfl (by kernel_rfl) (by kernel_rfl) (by kernel_rfl) (fun _ _ _ h => h) (Or.inl ⟨by rfl, ?hyr5n17⟩) (by assumption) ?restr5n17
  case hyr5n17 => (intro w hSw; (try dsimp only at hSw); go_simp; try with_reducible rfl)
  simp only [Act.put, List.setIfInBounds_toArray, List.set_cons_zero, List.set_cons_succ]
  refine wpAnyH_take (i := 18) (oi := { dst := some 26, op := Op.assign (Operand.tmp 44), type := 4, pos := "object.go:95", after := #[{ on := 17, ground := Ground.data }, { on := 14, ground := Ground.chain }], guard := none }) (v := ?vvr5n18) rfl (by kernel_rfl) (by kernel_rfl) (by kernel_rfl) (fun _ _ _ h => h) (Or.inl ⟨by rfl, ?hyr5n18⟩) (by assumption) ?restr5n18
  case hyr5n18 => (intro w hSw; (try dsimp only at hSw); go_simp; try with_reducible rfl)
  simp only [Act.put, List.setIfInBounds_toArray, List.set_cons_zero, List.set_cons_succ]
  refine wpAnyH_done (by kernel_rfl) ?_ _
  go_wp2_with fail
  go_ret
  exact ⟨rfl, bThen hb hHeld1.2⟩
set_option maxHeartbeats 8000000 in
theorem fault_ok_f (o : Ob) (whole : Bool) (w : World) (h : Meets o w) (hf : fitsB o = true) (hm : HL.mayB o.handle = true) (hc : countsObB o = true) (ho : orderedB o = true) :
    Calls Tryz.prog 41 #[ob o, .bool false] w fun e w' => e = .returned (.int .i64 0) ∧ Below w.heap.size w w' := by
  have hb : Below w.heap.size w w := Below.refl _ _
  have C1 := Lib.hid (fun W (k : Below w.heap.size w W) => hf ▸ fits_meets (h.then k))
  have C2 := fun W => Lib.hid (hm ▸ HL.may_any o.handle W h.handle)
  have C4 := fun W => Lib.hid (hc ▸ countsOb_any o W)
  have C5 := fun W => Lib.hid (ho ▸ ordered_any o W)
  have C6 := fun W => Lib.hid (rangeOf_any o W)
  have C7 := fun W => Lib.hid (has_any o.lo o.hi o.value W)
  generalize hasB o.lo o.hi o.value = hs at *
  clear h hf hm
  go_enter Tryz.func41, Tryz.ntmps41
  go_wp2_with fail
  go_at_call 54
  refine (C1.out _ (bAl hb _)).mono ?_
  rintro e W0 ⟨rfl, k⟩
  replace hb := bThen (bAl hb _) k
  have mO := (AtC.new _ _ _).then k
  have oc := mO.c
  go_wp2_with (first
    | (go_at_call 55; ((with_reducible refine (C2 _).out.mono ?_); rintro e W0 ⟨rfl, k⟩; replace hb := bThen hb k; replace mO := mO.then k; have oc := mO.c))
    | (go_at_call 56; ((with_reducible refine (C3.out _ hb).mono ?_); rintro e W0 ⟨rfl, k⟩; replace hb := bThen hb k; replace mO := mO.then k; have oc := mO.c))
    | (go_at_call 57; ((with_reducible refine (C4 _).out.mono ?_); rintro e W0 ⟨rfl, k⟩; replace hb := bThen hb k; replace mO := mO.then k; have oc := mO.c)))
  clear oc
  refine wp_region_held_drew (S := fun w' => (∀ i, w'.cell? ⟨w.heap.size, i, none⟩ = (obCells o)[i]?) ∧ Below W0.heap.size W0 w') (by kernel_rfl) ⟨(mO.drew1).c, (Below.refl _ _).drew⟩ (fun hHeld0 => ?_)
  refine wpAnyH_take (i := 0) (oi := { dst := some 27, op := Op.load 35 (Operand.tmp 2), type := 35, pos := "object.go:95", after := #[], guard := none }) (v := ?vvr6n0) rfl (by kernel_rfl) (by kernel_rfl) (by kernel_rfl) (fun _ _ _ h => h) (Or.inl ⟨by rfl, ?hyr6n0⟩) (by assumption) ?restr6n0
  case hyr6n0 => (intro w hSw; (try dsimp only at hSw); go_simp; try with_reducible rfl)
  simp only [Act.put, List.setIfInBounds_toArray, List.set_cons_zero, List.set_cons_succ]
  refine wpAnyH_ready (rs := [1]) (by kernel_rfl) (by simp) ?_
  refine AllReadyH.cons (o := { dst := some 28, op := Op.call { callee := Callee.value (Operand.func 58), args := #[Operand.tmp 27], argTypes := #[35] }, type := 4, pos := "object.go:95", after := #[{ on := 0, ground := Ground.data }], guard := none }) rfl (fun K hK => ?_) AllReadyH.nil
  go_simp
  refine (C5 _).out.mono ?_
  rintro e w3 ⟨rfl, k3⟩
  go_wp2_with fail
  refine hK.out _ _ ⟨(mO.then (keepD hHeld0 k3)).c, keepD hHeld0 k3⟩ (fun hHeld1 => ?_)
  clear hK K hHeld0
  try simp only [Act.put, List.setIfInBounds_toArray, List.set_cons_zero, List.set_cons_succ]
  refine wpAnyH_take (i := 2) (oi := { dst := some 29, op := Op.unOp UnOp.not 4 (Operand.tmp 28), type := 4, pos := "object.go:95", after := #[{ on := 1, ground := Ground.data }], guard := none }) (v := ?vvr6n2) rfl (by kernel_rfl) (by kernel_rfl) (by kernel_rfl) (fun _ _ _ h => h) (Or.inl ⟨by rfl, ?hyr6n2⟩) (by assumption) ?restr6n2
  case hyr6n2 => (intro w hSw; (try dsimp only at hSw); go_simp; try with_reducible rfl)
  simp only [Act.put, List.setIfInBounds_toArray, List.set_cons_zero, List.set_cons_succ]
  refine wpAnyH_take (i := 3) (oi := { dst := some 30, op := Op.move (Operand.tmp 29), type := 4, pos := "object.go:95", after := #[{ on := 2, ground := Ground.data }, { on := 1, ground := Ground.chain }], guard := none }) (v := ?vvr6n3) rfl (by kernel_rfl) (by kernel_rfl) (by kernel_rfl) (fun _ _ _ h => h) (Or.inl ⟨by rfl, ?hyr6n3⟩) (by assumption) ?restr6n3
  case hyr6n3 => (intro w hSw; (try dsimp only at hSw); go_simp; try with_reducible rfl)
  simp only [Act.put, List.setIfInBounds_toArray, List.set_cons_zero, List.set_cons_succ]
  refine wpAnyH_take (i := 4) (oi := { dst := some 31, op := Op.move (Operand.tmp 1), type := 4, pos := "object.go:95", after := #[{ on := 3, ground := Ground.guard }], guard := some (3, false) }) (v := ?vvr6n4) rfl (by kernel_rfl) (by kernel_rfl) (by kernel_rfl) (fun _ _ _ h => h) (Or.inl ⟨by rfl, ?hyr6n4⟩) (by assumption) ?restr6n4
  case hyr6n4 => (intro w hSw; (try dsimp only at hSw); go_simp; try with_reducible rfl)
  simp only [Act.put, List.setIfInBounds_toArray, List.set_cons_zero, List.set_cons_succ]
  refine wpAnyH_take (i := 5) (oi := { dst := some 32, op := Op.move (Operand.tmp 31), type := 4, pos := "object.go:95", after := #[{ on := 4, ground := Ground.data }, { on := 3, ground := Ground.chain }, { on := 3, ground := Ground.guard }], guard := some (3, false) }) (v := ?vvr6n5) rfl (by kernel_rfl) (by kernel_rfl) (by kernel_rfl) (fun _ _ _ h => h) (Or.inl ⟨by rfl, ?hyr6n5⟩) (by assumption) ?restr6n5
  case hyr6n5 => (intro w hSw; (try dsimp only at hSw); go_simp; try with_reducible rfl)
  simp only [Act.put, List.setIfInBounds_toArray, List.set_cons_zero, List.set_cons_succ]
  refine wpAnyH_take (i := 6) (oi := { dst := some 33, op := Op.fieldAddr 35 (Operand.tmp 2) 9, type := 0, pos := "object.go:95", after := #[{ on := 5, ground := Ground.guard }], guard := some (5, true) }) (v := undef) rfl (by kernel_rfl) (by kernel_rfl) (by kernel_rfl) (fun _ _ _ h => h) (Or.inr ⟨by rfl, rfl⟩) (by assumption) ?_
  simp only [Act.put, List.setIfInBounds_toArray, List.set_cons_zero, List.set_cons_succ]
  refine wpAnyH_take (i := 7) (oi := { dst := some 34, op := Op.load 4 (Operand.tmp 33), type := 4, pos := "object.go:95", after := #[{ on := 6, ground := Ground.data }, { on := 5, ground := Ground.guard }], guard := some (5, true) }) (v := undef) rfl (by kernel_rfl) (by kernel_rfl) (by kernel_rfl) (fun _ _ _ h => h) (Or.inr ⟨by rfl, rfl⟩) (by assumption) ?_
  simp only [Act.put, List.setIfInBounds_toArray, List.set_cons_zero, List.set_cons_succ]
  refine wpAnyH_take (i := 8) (oi := { dst := some 35, op := Op.pick (Operand.tmp 32) (Operand.tmp 34) (Operand.const (Value.bool false)), type := 4, pos := "object.go:95", after := #[{ on := 5, ground := Ground.data }, { on := 7, ground := Ground.data }, { on := 3, ground := Ground.guard }], guard := some (3, false) }) (v := ?vvr6n8) rfl (by kernel_rfl) (by kernel_rfl) (by kernel_rfl) (fun _ _ _ h => h) (Or.inl ⟨by rfl, ?hyr6n8⟩) (by assumption) ?restr6n8
  case hyr6n8 => (intro w hSw; (try dsimp only at hSw); go_simp; try with_reducible rfl)
  simp only [Act.put, List.setIfInBounds_toArray, List.set_cons_zero, List.set_cons_succ]
  refine wpAnyH_take (i := 9) (oi := { dst := some 36, op := Op.move (Operand.tmp 35), type := 4, pos := "object.go:95", after := #[{ on := 8, ground := Ground.data }, { on := 5, ground := Ground.chain }, { on := 3, ground := Ground.guard }], guard := some (3, false) }) (v := ?vvr6n9) rfl (by kernel_rfl) (by kernel_rfl) (by kernel_rfl) (fun _ _ _ h => h) (Or.inl ⟨by rfl, ?hyr6n9⟩) (by assumption) ?restr6n9
  case hyr6n9 => (intro w hSw; (try dsimp only at hSw); go_simp; try with_reducible rfl)
  simp only [Act.put, List.setIfInBounds_toArray, List.set_cons_zero, List.set_cons_succ]
  refine wpAnyH_take (i := 10) (oi := { dst := some 37, op := Op.load 35 (Operand.tmp 2), type := 35, pos := "object.go:95", after := #[{ on := 9, ground := Ground.guard }], guard := some (9, true) }) (v := undef) rfl (by kernel_rfl) (by kernel_rfl) (by kernel_rfl) (fun _ _ _ h => h) (Or.inr ⟨by rfl, rfl⟩) (by assumption) ?_
  simp only [Act.put, List.setIfInBounds_toArray, List.set_cons_zero, List.set_cons_succ]
  refine wpAnyH_take (i := 11) (oi := { dst := some 38, op := Op.call { callee := Callee.value (Operand.func 59), args := #[Operand.tmp 37], argTypes := #[35] }, type := 76, pos := "object.go:95", after := #[{ on := 10, ground := Ground.data }, { on := 9, ground := Ground.chain }, { on := 9, ground := Ground.guard }], guard := some (9, true) }) (v := undef) rfl (by kernel_rfl) (by kernel_rfl) (by kernel_rfl) (fun _ _ _ h => h) (Or.inr ⟨by rfl, rfl⟩) (by assumption) ?_
  simp only [Act.put, List.setIfInBounds_toArray, List.set_cons_zero, List.set_cons_succ]
  refine wpAnyH_take (i := 12) (oi := { dst := some 39, op := Op.fieldAddr 35 (Operand.tmp 2) 10, type := 0, pos := "object.go:95", after := #[{ on := 9, ground := Ground.guard }], guard := some (9, true) }) (v := undef) rfl (by kernel_rfl) (by kernel_rfl) (by kernel_rfl) (fun _ _ _ h => h) (Or.inr ⟨by rfl, rfl⟩) (by assumption) ?_
  simp only [Act.put, List.setIfInBounds_toArray, List.set_cons_zero, List.set_cons_succ]
  refine wpAnyH_take (i := 13) (oi := { dst := some 40, op := Op.load 2 (Operand.tmp 39), type := 2, pos := "object.go:95", after := #[{ on := 12, ground := Ground.data }, { on := 9, ground := Ground.guard }], guard := some (9, true) }) (v := undef) rfl (by kernel_rfl) (by kernel_rfl) (by kernel_rfl) (fun _ _ _ h => h) (Or.inr ⟨by rfl, rfl⟩) (by assumption) ?_
  simp only [Act.put, List.setIfInBounds_toArray, List.set_cons_zero, List.set_cons_succ]
  refine wpAnyH_take (i := 14) (oi := { dst := some 41, op := Op.call { callee := Callee.value (Operand.func 60), args := #[Operand.tmp 38, Operand.tmp 40], argTypes := #[76, 2] }, type := 4, pos := "object.go:95", after := #[{ on := 11, ground := Ground.data }, { on := 13, ground := Ground.data }, { on := 11, ground := Ground.chain }, { on := 9, ground := Ground.guard }], guard := some (9, true) }) (v := undef) rfl (by kernel_rfl) (by kernel_rfl) (by kernel_rfl) (fun _ _ _ h => h) (Or.inr ⟨by rfl, rfl⟩) (by assumption) ?_
  simp only [Act.put, List.setIfInBounds_toArray, List.set_cons_zero, List.set_cons_succ]
  refine wpAnyH_take (i := 15) (oi := { dst := some 42, op := Op.unOp UnOp.not 4 (Operand.tmp 41), type := 4, pos := "object.go:95", after := #[{ on := 14, ground := Ground.data }, { on := 9, ground := Ground.guard }], guard := some (9, true) }) (v := undef) rfl (by kernel_rfl) (by kernel_rfl) (by kernel_rfl) (fun _ _ _ h => h) (Or.inr ⟨by rfl, rfl⟩) (by assumption) ?_
  simp only [Act.put, List.setIfInBounds_toArray, List.set_cons_zero, List.set_cons_succ]
  refine wpAnyH_take (i := 16) (oi := { dst := some 43, op := Op.pick (Operand.tmp 36) (Operand.tmp 42) (Operand.const (Value.bool false)), type := 4, pos := "object.go:95", after := #[{ on := 9, ground := Ground.data }, { on := 15, ground := Ground.data }, { on := 3, ground := Ground.guard }], guard := some (3, false) }) (v := ?vvr6n16) rfl (by kernel_rfl) (by kernel_rfl) (by kernel_rfl) (fun _ _ _ h => h) (Or.inl ⟨by rfl, ?hyr6n16⟩) (by assumption) ?restr6n16
  case hyr6n16 => (intro w hSw; (try dsimp only at hSw); go_simp; try with_reducible rfl)
  simp only [Act.put, List.setIfInBounds_toArray, List.set_cons_zero, List.set_cons_succ]
  refine wpAnyH_take (i := 17) (oi := { dst := some 44, op := Op.pick (Operand.tmp 30) (Operand.const (Value.bool true)) (Operand.tmp 43), type := 4, pos := "object.go:95", after := #[{ on := 3, ground := Ground.data }, { on := 16, ground := Ground.data }], guard := none }) (v := ?vvr6n17) rfl (by kernel_rfl) (by kernel_rfl) (by kernel_rfl) (fun _ _ _ h => h) (Or.inl ⟨by rfl, ?hyr6n17⟩) (by assumption) ?restr6n17
  case hyr6n17 => (intro w hSw; (try dsimp only at hSw); go_simp; try with_reducible rfl)
  simp only [Act.put, List.setIfInBounds_toArray, List.set_cons_zero, List.set_cons_succ]
  refine wpAnyH_take (i := 18) (oi := { dst := some 26, op := Op.assign (Operand.tmp 44), type := 4, pos := "object.go:95", after := #[{ on := 17, ground := Ground.data }, { on := 14, ground := Ground.chain }], guard := none }) (v := ?vvr6n18) rfl (by kernel_rfl) (by kernel_rfl) (by kernel_rfl) (fun _ _ _ h => h) (Or.inl ⟨by rfl, ?hyr6n18⟩) (by assumption) ?restr6n18
  case hyr6n18 => (intro w hSw; (try dsimp only at hSw); go_simp; try with_reducible rfl)
  simp only [Act.put, List.setIfInBounds_toArray, List.set_cons_zero, List.set_cons_succ]
  refine wpAnyH_done (by kernel_rfl) ?_ _
  go_wp2_with fail
  go_ret
  exact ⟨rfl, bThen hb hHeld1.2⟩
theorem fault_any (o : Ob) (whole : Bool) (w : World) (h : Meets o w) : Calls Tryz.prog 41 #[ob o, .bool whole] w fun e w' => e = .returned (.int .i64 (faultP o whole)) ∧ Below w.heap.size w w' := by
  unfold faultP
  cases hf : fitsB o with
  | false => exact fault_fits o whole w h hf
  | true =>
    cases hm : HL.mayB o.handle with
    | false => exact fault_may o whole w h hf hm
    | true =>
      cases whole with
      | false =>
        cases hc : countsObB o with
        | false => exact fault_counts_f o false w h hf hm hc
        | true =>
          cases ho : orderedB o with
          | false => exact fault_order_f o false w h hf hm hc ho
          | true => exact fault_ok_f o false w h hf hm hc ho
      | true =>
        cases hn : namedB o with
        | false => exact fault_named o true w h hf hm hn
        | true =>
          cases hc : countsObB o with
          | false => exact fault_counts_t o true w h hf hm hn hc
          | true =>
            cases ho : orderedB o with
            | false => exact fault_order_t o true w h hf hm hn hc ho
            | true =>
              cases hz : o.has with
              | false => exact fault_has_f o true w h hf hm hn hc ho hz
              | true =>
                cases hh : hasB o.lo o.hi o.value with
                | false => exact fault_in_f o true w h hf hm hn hc ho hz hh
                | true => exact fault_in_t o true w h hf hm hn hc ho hz hh
end Go.Proofs.YtncahpbjbgcnbaaGreatDoor
