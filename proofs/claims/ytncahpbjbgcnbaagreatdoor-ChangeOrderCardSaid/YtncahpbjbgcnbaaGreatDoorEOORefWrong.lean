/-
  WALK: the document's wrong: the fault of an object.
-/
import Derived.Test.YtncahpbjbgcnbaaGreatDoorEO5
import Derived.Test.YtncahpbjbgcnbaaGreatDoorEO0
import Derived.Deep.RegionHeld3
import Derived.Deep.RegionWith
namespace Go.Proofs.YtncahpbjbgcnbaaGreatDoor
open Go.RowKit
set_option maxRecDepth 100000
set_option linter.unusedVariables false

set_option maxHeartbeats 8000000 in
theorem wrong_kind (o : Ob) (desc valued : Bool) (w : World) (hk : o.kind ≤ 255) (h : kindB o.kind = false) :
    Calls Tryz.prog 97 #[ob o, .bool desc, .bool valued] w fun e w' => e = .returned (.int .i64 40) ∧ Below w.heap.size w w' := by
  have hb : Below w.heap.size w w := Below.refl _ _
  have hw : wordOf o.kind = ⟨#[]⟩ := word_none (by unfold kindB at h; have := of_decide_eq_false h; omega)
  have CW := fun W => Lib.hid (hw ▸ refWord_any o.kind W hk)
  clear h hw hk
  go_enter Tryz.func97, Tryz.ntmps97
  go_wp2_with fail
  have mO := AtC.new w (obCells o) 35
  replace hb := bAl hb (.cells (obCells o) 35)
  generalize w.alloc (.cells (obCells o) 35) = W0 at *
  refine wp_region_held_drew (S := fun w' => (∀ i, w'.cell? ⟨w.heap.size, i, none⟩ = (obCells o)[i]?) ∧ Below W0.heap.size W0 w') (by kernel_rfl) ⟨(mO.drew1).c, (Below.refl _ _).drew⟩ (fun hHeld0 => ?_)
  refine wpAnyH_take (i := 0) (oi := { dst := some 7, op := Op.fieldAddr 35 (Operand.tmp 3) 1, type := 0, pos := "ref.go:68", after := #[], guard := none }) (v := ?vvr1n0) rfl (by kernel_rfl) (by kernel_rfl) (by kernel_rfl) (fun _ _ _ h => h) (Or.inl ⟨by rfl, ?hyr1n0⟩) (by assumption) ?restr1n0
  case hyr1n0 => (intro w hSw; (try dsimp only at hSw); go_simp; try with_reducible rfl)
  simp only [Act.put, List.setIfInBounds_toArray, List.set_cons_zero, List.set_cons_succ]
  refine wpAnyH_take (i := 1) (oi := { dst := some 8, op := Op.load 5 (Operand.tmp 7), type := 5, pos := "ref.go:68", after := #[{ on := 0, ground := Ground.data }], guard := none }) (v := ?vvr1n1) rfl (by kernel_rfl) (by kernel_rfl) (by kernel_rfl) (fun _ _ _ h => h) (Or.inl ⟨by rfl, ?hyr1n1⟩) (by assumption) ?restr1n1
  case hyr1n1 => (intro w hSw; (try dsimp only at hSw); go_simp; try with_reducible rfl)
  simp only [Act.put, List.setIfInBounds_toArray, List.set_cons_zero, List.set_cons_succ]
  refine wpAnyH_ready (rs := [2]) (by kernel_rfl) (by simp) ?_
  refine AllReadyH.cons (o := { dst := some 9, op := Op.call { callee := Callee.value (Operand.func 124), args := #[Operand.tmp 8], argTypes := #[5] }, type := 9, pos := "ref.go:68", after := #[{ on := 1, ground := Ground.data }], guard := none }) rfl (fun K hK => ?_) AllReadyH.nil
  go_simp
  refine (CW _).out.mono ?_
  rintro e w3 ⟨rfl, k3⟩
  go_wp2_with fail
  refine hK.out _ _ ⟨(mO.then (keepD hHeld0 k3)).c, keepD hHeld0 k3⟩ (fun hHeld1 => ?_)
  clear hK K hHeld0
  try simp only [Act.put, List.setIfInBounds_toArray, List.set_cons_zero, List.set_cons_succ]
  refine wpAnyH_take (i := 3) (oi := { dst := some 10, op := Op.binOp BinOp.eql 9 (Operand.tmp 9) (Operand.const (Value.string { data := #[] })) 9, type := 4, pos := "ref.go:68", after := #[{ on := 2, ground := Ground.data }], guard := none }) (v := ?vvr1n3) rfl (by kernel_rfl) (by kernel_rfl) (by kernel_rfl) (fun _ _ _ h => h) (Or.inl ⟨by rfl, ?hyr1n3⟩) (by assumption) ?restr1n3
  case hyr1n3 => (intro w hSw; (try dsimp only at hSw); go_simp; try with_reducible rfl)
  simp only [Act.put, List.setIfInBounds_toArray, List.set_cons_zero, List.set_cons_succ]
  refine wpAnyH_take (i := 4) (oi := { dst := some 11, op := Op.move (Operand.tmp 10), type := 4, pos := "ref.go:68", after := #[{ on := 3, ground := Ground.data }, { on := 2, ground := Ground.chain }], guard := none }) (v := ?vvr1n4) rfl (by kernel_rfl) (by kernel_rfl) (by kernel_rfl) (fun _ _ _ h => h) (Or.inl ⟨by rfl, ?hyr1n4⟩) (by assumption) ?restr1n4
  case hyr1n4 => (intro w hSw; (try dsimp only at hSw); go_simp; try with_reducible rfl)
  simp only [Act.put, List.setIfInBounds_toArray, List.set_cons_zero, List.set_cons_succ]
  refine wpAnyH_take (i := 5) (oi := { dst := some 12, op := Op.load 35 (Operand.tmp 3), type := 35, pos := "ref.go:68", after := #[{ on := 4, ground := Ground.guard }], guard := some (4, false) }) (v := undef) rfl (by kernel_rfl) (by kernel_rfl) (by kernel_rfl) (fun _ _ _ h => h) (Or.inr ⟨by rfl, rfl⟩) (by assumption) ?_
  simp only [Act.put, List.setIfInBounds_toArray, List.set_cons_zero, List.set_cons_succ]
  refine wpAnyH_take (i := 6) (oi := { dst := some 13, op := Op.call { callee := Callee.value (Operand.func 125), args := #[Operand.tmp 12], argTypes := #[35] }, type := 35, pos := "ref.go:68", after := #[{ on := 5, ground := Ground.data }, { on := 4, ground := Ground.chain }, { on := 4, ground := Ground.guard }], guard := some (4, false) }) (v := undef) rfl (by kernel_rfl) (by kernel_rfl) (by kernel_rfl) (fun _ _ _ h => h) (Or.inr ⟨by rfl, rfl⟩) (by assumption) ?_
  simp only [Act.put, List.setIfInBounds_toArray, List.set_cons_zero, List.set_cons_succ]
  refine wpAnyH_take (i := 7) (oi := { dst := some 14, op := Op.load 35 (Operand.tmp 3), type := 35, pos := "ref.go:68", after := #[{ on := 4, ground := Ground.guard }], guard := some (4, false) }) (v := undef) rfl (by kernel_rfl) (by kernel_rfl) (by kernel_rfl) (fun _ _ _ h => h) (Or.inr ⟨by rfl, rfl⟩) (by assumption) ?_
  simp only [Act.put, List.setIfInBounds_toArray, List.set_cons_zero, List.set_cons_succ]
  refine wpAnyH_take (i := 8) (oi := { dst := some 15, op := Op.binOp BinOp.neq 35 (Operand.tmp 13) (Operand.tmp 14) 35, type := 4, pos := "ref.go:68", after := #[{ on := 6, ground := Ground.data }, { on := 7, ground := Ground.data }, { on := 4, ground := Ground.guard }], guard := some (4, false) }) (v := undef) rfl (by kernel_rfl) (by kernel_rfl) (by kernel_rfl) (fun _ _ _ h => h) (Or.inr ⟨by rfl, rfl⟩) (by assumption) ?_
  simp only [Act.put, List.setIfInBounds_toArray, List.set_cons_zero, List.set_cons_succ]
  refine wpAnyH_take (i := 9) (oi := { dst := some 16, op := Op.pick (Operand.tmp 11) (Operand.const (Value.bool true)) (Operand.tmp 15), type := 4, pos := "ref.go:68", after := #[{ on := 4, ground := Ground.data }, { on := 8, ground := Ground.data }], guard := none }) (v := ?vvr1n9) rfl (by kernel_rfl) (by kernel_rfl) (by kernel_rfl) (fun _ _ _ h => h) (Or.inl ⟨by rfl, ?hyr1n9⟩) (by assumption) ?restr1n9
  case hyr1n9 => (intro w hSw; (try dsimp only at hSw); go_simp; try with_reducible rfl)
  simp only [Act.put, List.setIfInBounds_toArray, List.set_cons_zero, List.set_cons_succ]
  refine wpAnyH_take (i := 10) (oi := { dst := some 17, op := Op.move (Operand.tmp 16), type := 4, pos := "ref.go:68", after := #[{ on := 9, ground := Ground.data }, { on := 6, ground := Ground.chain }], guard := none }) (v := ?vvr1n10) rfl (by kernel_rfl) (by kernel_rfl) (by kernel_rfl) (fun _ _ _ h => h) (Or.inl ⟨by rfl, ?hyr1n10⟩) (by assumption) ?restr1n10
  case hyr1n10 => (intro w hSw; (try dsimp only at hSw); go_simp; try with_reducible rfl)
  simp only [Act.put, List.setIfInBounds_toArray, List.set_cons_zero, List.set_cons_succ]
  refine wpAnyH_take (i := 11) (oi := { dst := some 18, op := Op.fieldAddr 35 (Operand.tmp 3) 3, type := 0, pos := "ref.go:68", after := #[{ on := 10, ground := Ground.guard }], guard := some (10, false) }) (v := undef) rfl (by kernel_rfl) (by kernel_rfl) (by kernel_rfl) (fun _ _ _ h => h) (Or.inr ⟨by rfl, rfl⟩) (by assumption) ?_
  simp only [Act.put, List.setIfInBounds_toArray, List.set_cons_zero, List.set_cons_succ]
  refine wpAnyH_take (i := 12) (oi := { dst := some 19, op := Op.load 5 (Operand.tmp 18), type := 5, pos := "ref.go:68", after := #[{ on := 11, ground := Ground.data }, { on := 10, ground := Ground.guard }], guard := some (10, false) }) (v := undef) rfl (by kernel_rfl) (by kernel_rfl) (by kernel_rfl) (fun _ _ _ h => h) (Or.inr ⟨by rfl, rfl⟩) (by assumption) ?_
  simp only [Act.put, List.setIfInBounds_toArray, List.set_cons_zero, List.set_cons_succ]
  refine wpAnyH_take (i := 13) (oi := { dst := some 20, op := Op.binOp BinOp.gtr 5 (Operand.tmp 19) (Operand.const (Value.int IntKind.u8 3)) 5, type := 4, pos := "ref.go:68", after := #[{ on := 12, ground := Ground.data }, { on := 10, ground := Ground.guard }], guard := some (10, false) }) (v := undef) rfl (by kernel_rfl) (by kernel_rfl) (by kernel_rfl) (fun _ _ _ h => h) (Or.inr ⟨by rfl, rfl⟩) (by assumption) ?_
  simp only [Act.put, List.setIfInBounds_toArray, List.set_cons_zero, List.set_cons_succ]
  refine wpAnyH_take (i := 14) (oi := { dst := some 21, op := Op.pick (Operand.tmp 17) (Operand.const (Value.bool true)) (Operand.tmp 20), type := 4, pos := "ref.go:68", after := #[{ on := 10, ground := Ground.data }, { on := 13, ground := Ground.data }], guard := none }) (v := ?vvr1n14) rfl (by kernel_rfl) (by kernel_rfl) (by kernel_rfl) (fun _ _ _ h => h) (Or.inl ⟨by rfl, ?hyr1n14⟩) (by assumption) ?restr1n14
  case hyr1n14 => (intro w hSw; (try dsimp only at hSw); go_simp; try with_reducible rfl)
  simp only [Act.put, List.setIfInBounds_toArray, List.set_cons_zero, List.set_cons_succ]
  refine wpAnyH_take (i := 15) (oi := { dst := some 22, op := Op.move (Operand.tmp 21), type := 4, pos := "ref.go:68", after := #[{ on := 14, ground := Ground.data }, { on := 10, ground := Ground.chain }], guard := none }) (v := ?vvr1n15) rfl (by kernel_rfl) (by kernel_rfl) (by kernel_rfl) (fun _ _ _ h => h) (Or.inl ⟨by rfl, ?hyr1n15⟩) (by assumption) ?restr1n15
  case hyr1n15 => (intro w hSw; (try dsimp only at hSw); go_simp; try with_reducible rfl)
  simp only [Act.put, List.setIfInBounds_toArray, List.set_cons_zero, List.set_cons_succ]
  refine wpAnyH_take (i := 16) (oi := { dst := some 23, op := Op.fieldAddr 35 (Operand.tmp 3) 13, type := 0, pos := "ref.go:68", after := #[{ on := 15, ground := Ground.guard }], guard := some (15, false) }) (v := undef) rfl (by kernel_rfl) (by kernel_rfl) (by kernel_rfl) (fun _ _ _ h => h) (Or.inr ⟨by rfl, rfl⟩) (by assumption) ?_
  simp only [Act.put, List.setIfInBounds_toArray, List.set_cons_zero, List.set_cons_succ]
  refine wpAnyH_take (i := 17) (oi := { dst := some 24, op := Op.load 5 (Operand.tmp 23), type := 5, pos := "ref.go:68", after := #[{ on := 16, ground := Ground.data }, { on := 15, ground := Ground.guard }], guard := some (15, false) }) (v := undef) rfl (by kernel_rfl) (by kernel_rfl) (by kernel_rfl) (fun _ _ _ h => h) (Or.inr ⟨by rfl, rfl⟩) (by assumption) ?_
  simp only [Act.put, List.setIfInBounds_toArray, List.set_cons_zero, List.set_cons_succ]
  refine wpAnyH_take (i := 18) (oi := { dst := some 25, op := Op.binOp BinOp.gtr 5 (Operand.tmp 24) (Operand.const (Value.int IntKind.u8 3)) 5, type := 4, pos := "ref.go:68", after := #[{ on := 17, ground := Ground.data }, { on := 15, ground := Ground.guard }], guard := some (15, false) }) (v := undef) rfl (by kernel_rfl) (by kernel_rfl) (by kernel_rfl) (fun _ _ _ h => h) (Or.inr ⟨by rfl, rfl⟩) (by assumption) ?_
  simp only [Act.put, List.setIfInBounds_toArray, List.set_cons_zero, List.set_cons_succ]
  refine wpAnyH_take (i := 19) (oi := { dst := some 26, op := Op.pick (Operand.tmp 22) (Operand.const (Value.bool true)) (Operand.tmp 25), type := 4, pos := "ref.go:68", after := #[{ on := 15, ground := Ground.data }, { on := 18, ground := Ground.data }], guard := none }) (v := ?vvr1n19) rfl (by kernel_rfl) (by kernel_rfl) (by kernel_rfl) (fun _ _ _ h => h) (Or.inl ⟨by rfl, ?hyr1n19⟩) (by assumption) ?restr1n19
  case hyr1n19 => (intro w hSw; (try dsimp only at hSw); go_simp; try with_reducible rfl)
  simp only [Act.put, List.setIfInBounds_toArray, List.set_cons_zero, List.set_cons_succ]
  refine wpAnyH_done (by kernel_rfl) ?_ _
  go_wp2_with fail
  go_ret
  exact ⟨rfl, bThen hb hHeld1.2⟩

theorem ob_ne {x o : Ob} (h : x ≠ o) : x.handle.toList = o.handle.toList → (x.kind : Int) = o.kind → x.parent.toList = o.parent.toList → (x.typ : Int) = o.typ → x.ref.toList = o.ref.toList → x.lo = o.lo → x.hi = o.hi → (x.digits : Int) = o.digits → x.on = o.on → x.has = o.has → x.value = o.value → x.low = o.low → x.high = o.high → ¬ (x.assoc : Int) = o.assoc := by
  intro a1 a2 a3 a4 a5 a6 a7 a8 a9 a10 a11 a12 a13 a14
  apply h
  obtain ⟨b1, b2, b3, b4, b5, b6, b7, b8, b9, b10, b11, b12, b13, b14⟩ := x
  obtain ⟨c1, c2, c3, c4, c5, c6, c7, c8, c9, c10, c11, c12, c13, c14⟩ := o
  dsimp only at *
  have := bytes_toList a1; have := bytes_toList a3; have := bytes_toList a5
  have : b2 = c2 := by omega
  have : b4 = c4 := by omega
  have : b8 = c8 := by omega
  have : b14 = c14 := by omega
  subst_vars
  rfl
set_option maxHeartbeats 8000000 in
theorem wrong_trim (o x : Ob) (desc valued : Bool) (w : World) (hk : o.kind ≤ 255) (h : kindB o.kind = true) (hx : trimOf o = x) (hne : x ≠ o) :
    Calls Tryz.prog 97 #[ob o, .bool desc, .bool valued] w fun e w' => e = .returned (.int .i64 40) ∧ Below w.heap.size w w' := by
  have hb : Below w.heap.size w w := Below.refl _ _
  obtain ⟨c, l, hw⟩ := word_some h
  have CW := fun W => Lib.hid (hw ▸ refWord_any o.kind W hk)
  have CT := fun W => Lib.hid (hx ▸ refTrim_any o W hk)
  clear h hw hk hx
  go_enter Tryz.func97, Tryz.ntmps97
  go_wp2_with fail
  have mO := AtC.new w (obCells o) 35
  replace hb := bAl hb (.cells (obCells o) 35)
  generalize w.alloc (.cells (obCells o) 35) = W0 at *
  refine wp_region_held_drew (S := fun w' => (∀ i, w'.cell? ⟨w.heap.size, i, none⟩ = (obCells o)[i]?) ∧ Below W0.heap.size W0 w') (by kernel_rfl) ⟨(mO.drew1).c, (Below.refl _ _).drew⟩ (fun hHeld0 => ?_)
  refine wpAnyH_take (i := 0) (oi := { dst := some 7, op := Op.fieldAddr 35 (Operand.tmp 3) 1, type := 0, pos := "ref.go:68", after := #[], guard := none }) (v := ?vvr2n0) rfl (by kernel_rfl) (by kernel_rfl) (by kernel_rfl) (fun _ _ _ h => h) (Or.inl ⟨by rfl, ?hyr2n0⟩) (by assumption) ?restr2n0
  case hyr2n0 => (intro w hSw; (try dsimp only at hSw); go_simp; try with_reducible rfl)
  simp only [Act.put, List.setIfInBounds_toArray, List.set_cons_zero, List.set_cons_succ]
  refine wpAnyH_take (i := 1) (oi := { dst := some 8, op := Op.load 5 (Operand.tmp 7), type := 5, pos := "ref.go:68", after := #[{ on := 0, ground := Ground.data }], guard := none }) (v := ?vvr2n1) rfl (by kernel_rfl) (by kernel_rfl) (by kernel_rfl) (fun _ _ _ h => h) (Or.inl ⟨by rfl, ?hyr2n1⟩) (by assumption) ?restr2n1
  case hyr2n1 => (intro w hSw; (try dsimp only at hSw); go_simp; try with_reducible rfl)
  simp only [Act.put, List.setIfInBounds_toArray, List.set_cons_zero, List.set_cons_succ]
  refine wpAnyH_ready (rs := [2]) (by kernel_rfl) (by simp) ?_
  refine AllReadyH.cons (o := { dst := some 9, op := Op.call { callee := Callee.value (Operand.func 124), args := #[Operand.tmp 8], argTypes := #[5] }, type := 9, pos := "ref.go:68", after := #[{ on := 1, ground := Ground.data }], guard := none }) rfl (fun K hK => ?_) AllReadyH.nil
  go_simp
  refine (CW _).out.mono ?_
  rintro e w3 ⟨rfl, k3⟩
  go_wp2_with fail
  refine hK.out _ _ ⟨(mO.then (keepD hHeld0 k3)).c, keepD hHeld0 k3⟩ (fun hHeld1 => ?_)
  clear hK K hHeld0
  try simp only [Act.put, List.setIfInBounds_toArray, List.set_cons_zero, List.set_cons_succ]
  refine wpAnyH_take (i := 3) (oi := { dst := some 10, op := Op.binOp BinOp.eql 9 (Operand.tmp 9) (Operand.const (Value.string { data := #[] })) 9, type := 4, pos := "ref.go:68", after := #[{ on := 2, ground := Ground.data }], guard := none }) (v := ?vvr2n3) rfl (by kernel_rfl) (by kernel_rfl) (by kernel_rfl) (fun _ _ _ h => h) (Or.inl ⟨by rfl, ?hyr2n3⟩) (by assumption) ?restr2n3
  case hyr2n3 => (intro w hSw; (try dsimp only at hSw); go_simp; try with_reducible rfl)
  simp only [Act.put, List.setIfInBounds_toArray, List.set_cons_zero, List.set_cons_succ]
  refine wpAnyH_take (i := 4) (oi := { dst := some 11, op := Op.move (Operand.tmp 10), type := 4, pos := "ref.go:68", after := #[{ on := 3, ground := Ground.data }, { on := 2, ground := Ground.chain }], guard := none }) (v := ?vvr2n4) rfl (by kernel_rfl) (by kernel_rfl) (by kernel_rfl) (fun _ _ _ h => h) (Or.inl ⟨by rfl, ?hyr2n4⟩) (by assumption) ?restr2n4
  case hyr2n4 => (intro w hSw; (try dsimp only at hSw); go_simp; try with_reducible rfl)
  simp only [Act.put, List.setIfInBounds_toArray, List.set_cons_zero, List.set_cons_succ]
  refine wpAnyH_take (i := 5) (oi := { dst := some 12, op := Op.load 35 (Operand.tmp 3), type := 35, pos := "ref.go:68", after := #[{ on := 4, ground := Ground.guard }], guard := some (4, false) }) (v := ?vvr2n5) rfl (by kernel_rfl) (by kernel_rfl) (by kernel_rfl) (fun _ _ _ h => h) (Or.inl ⟨by rfl, ?hyr2n5⟩) (by assumption) ?restr2n5
  case hyr2n5 => (intro w hSw; (try dsimp only at hSw); go_simp; try with_reducible rfl)
  simp only [Act.put, List.setIfInBounds_toArray, List.set_cons_zero, List.set_cons_succ]
  refine wpAnyH_take (i := 7) (oi := { dst := some 14, op := Op.load 35 (Operand.tmp 3), type := 35, pos := "ref.go:68", after := #[{ on := 4, ground := Ground.guard }], guard := some (4, false) }) (v := ?vvr2n7) rfl (by kernel_rfl) (by kernel_rfl) (by kernel_rfl) (fun _ _ _ h => h) (Or.inl ⟨by rfl, ?hyr2n7⟩) (by assumption) ?restr2n7
  case hyr2n7 => (intro w hSw; (try dsimp only at hSw); go_simp; try with_reducible rfl)
  simp only [Act.put, List.setIfInBounds_toArray, List.set_cons_zero, List.set_cons_succ]
  refine wpAnyH_ready (rs := [6]) (by kernel_rfl) (by simp) ?_
  refine AllReadyH.cons (o := { dst := some 13, op := Op.call { callee := Callee.value (Operand.func 125), args := #[Operand.tmp 12], argTypes := #[35] }, type := 35, pos := "ref.go:68", after := #[{ on := 5, ground := Ground.data }, { on := 4, ground := Ground.chain }, { on := 4, ground := Ground.guard }], guard := some (4, false) }) rfl (fun K hK => ?_) AllReadyH.nil
  go_simp
  refine (CT _).out.mono ?_
  rintro e w3 ⟨rfl, k3⟩
  go_wp2_with fail
  refine hK.out _ _ ⟨(mO.then (keepD hHeld1 k3)).c, keepD hHeld1 k3⟩ (fun hHeld2 => ?_)
  clear hK K hHeld1
  try simp only [Act.put, List.setIfInBounds_toArray, List.set_cons_zero, List.set_cons_succ]
  refine wpAnyH_take (i := 8) (oi := { dst := some 15, op := Op.binOp BinOp.neq 35 (Operand.tmp 13) (Operand.tmp 14) 35, type := 4, pos := "ref.go:68", after := #[{ on := 6, ground := Ground.data }, { on := 7, ground := Ground.data }, { on := 4, ground := Ground.guard }], guard := some (4, false) }) (v := Value.bool true) rfl (by kernel_rfl) (by kernel_rfl) (by kernel_rfl) (fun _ _ _ h => h) (Or.inl ⟨by rfl, ?hyr2n8⟩) (by assumption) ?restr2n8
  case hyr2n8 => (intro w hSw; (try dsimp only at hSw); go_simp; exact ob_ne hne)
  simp only [Act.put, List.setIfInBounds_toArray, List.set_cons_zero, List.set_cons_succ]
  refine wpAnyH_take (i := 9) (oi := { dst := some 16, op := Op.pick (Operand.tmp 11) (Operand.const (Value.bool true)) (Operand.tmp 15), type := 4, pos := "ref.go:68", after := #[{ on := 4, ground := Ground.data }, { on := 8, ground := Ground.data }], guard := none }) (v := ?vvr2n9) rfl (by kernel_rfl) (by kernel_rfl) (by kernel_rfl) (fun _ _ _ h => h) (Or.inl ⟨by rfl, ?hyr2n9⟩) (by assumption) ?restr2n9
  case hyr2n9 => (intro w hSw; (try dsimp only at hSw); go_simp; try with_reducible rfl)
  simp only [Act.put, List.setIfInBounds_toArray, List.set_cons_zero, List.set_cons_succ]
  refine wpAnyH_take (i := 10) (oi := { dst := some 17, op := Op.move (Operand.tmp 16), type := 4, pos := "ref.go:68", after := #[{ on := 9, ground := Ground.data }, { on := 6, ground := Ground.chain }], guard := none }) (v := ?vvr2n10) rfl (by kernel_rfl) (by kernel_rfl) (by kernel_rfl) (fun _ _ _ h => h) (Or.inl ⟨by rfl, ?hyr2n10⟩) (by assumption) ?restr2n10
  case hyr2n10 => (intro w hSw; (try dsimp only at hSw); go_simp; try with_reducible rfl)
  simp only [Act.put, List.setIfInBounds_toArray, List.set_cons_zero, List.set_cons_succ]
  refine wpAnyH_take (i := 11) (oi := { dst := some 18, op := Op.fieldAddr 35 (Operand.tmp 3) 3, type := 0, pos := "ref.go:68", after := #[{ on := 10, ground := Ground.guard }], guard := some (10, false) }) (v := undef) rfl (by kernel_rfl) (by kernel_rfl) (by kernel_rfl) (fun _ _ _ h => h) (Or.inr ⟨by rfl, rfl⟩) (by assumption) ?_
  simp only [Act.put, List.setIfInBounds_toArray, List.set_cons_zero, List.set_cons_succ]
  refine wpAnyH_take (i := 12) (oi := { dst := some 19, op := Op.load 5 (Operand.tmp 18), type := 5, pos := "ref.go:68", after := #[{ on := 11, ground := Ground.data }, { on := 10, ground := Ground.guard }], guard := some (10, false) }) (v := undef) rfl (by kernel_rfl) (by kernel_rfl) (by kernel_rfl) (fun _ _ _ h => h) (Or.inr ⟨by rfl, rfl⟩) (by assumption) ?_
  simp only [Act.put, List.setIfInBounds_toArray, List.set_cons_zero, List.set_cons_succ]
  refine wpAnyH_take (i := 13) (oi := { dst := some 20, op := Op.binOp BinOp.gtr 5 (Operand.tmp 19) (Operand.const (Value.int IntKind.u8 3)) 5, type := 4, pos := "ref.go:68", after := #[{ on := 12, ground := Ground.data }, { on := 10, ground := Ground.guard }], guard := some (10, false) }) (v := undef) rfl (by kernel_rfl) (by kernel_rfl) (by kernel_rfl) (fun _ _ _ h => h) (Or.inr ⟨by rfl, rfl⟩) (by assumption) ?_
  simp only [Act.put, List.setIfInBounds_toArray, List.set_cons_zero, List.set_cons_succ]
  refine wpAnyH_take (i := 14) (oi := { dst := some 21, op := Op.pick (Operand.tmp 17) (Operand.const (Value.bool true)) (Operand.tmp 20), type := 4, pos := "ref.go:68", after := #[{ on := 10, ground := Ground.data }, { on := 13, ground := Ground.data }], guard := none }) (v := ?vvr2n14) rfl (by kernel_rfl) (by kernel_rfl) (by kernel_rfl) (fun _ _ _ h => h) (Or.inl ⟨by rfl, ?hyr2n14⟩) (by assumption) ?restr2n14
  case hyr2n14 => (intro w hSw; (try dsimp only at hSw); go_simp; try with_reducible rfl)
  simp only [Act.put, List.setIfInBounds_toArray, List.set_cons_zero, List.set_cons_succ]
  refine wpAnyH_take (i := 15) (oi := { dst := some 22, op := Op.move (Operand.tmp 21), type := 4, pos := "ref.go:68", after := #[{ on := 14, ground := Ground.data }, { on := 10, ground := Ground.chain }], guard := none }) (v := ?vvr2n15) rfl (by kernel_rfl) (by kernel_rfl) (by kernel_rfl) (fun _ _ _ h => h) (Or.inl ⟨by rfl, ?hyr2n15⟩) (by assumption) ?restr2n15
  case hyr2n15 => (intro w hSw; (try dsimp only at hSw); go_simp; try with_reducible rfl)
  simp only [Act.put, List.setIfInBounds_toArray, List.set_cons_zero, List.set_cons_succ]
  refine wpAnyH_take (i := 16) (oi := { dst := some 23, op := Op.fieldAddr 35 (Operand.tmp 3) 13, type := 0, pos := "ref.go:68", after := #[{ on := 15, ground := Ground.guard }], guard := some (15, false) }) (v := undef) rfl (by kernel_rfl) (by kernel_rfl) (by kernel_rfl) (fun _ _ _ h => h) (Or.inr ⟨by rfl, rfl⟩) (by assumption) ?_
  simp only [Act.put, List.setIfInBounds_toArray, List.set_cons_zero, List.set_cons_succ]
  refine wpAnyH_take (i := 17) (oi := { dst := some 24, op := Op.load 5 (Operand.tmp 23), type := 5, pos := "ref.go:68", after := #[{ on := 16, ground := Ground.data }, { on := 15, ground := Ground.guard }], guard := some (15, false) }) (v := undef) rfl (by kernel_rfl) (by kernel_rfl) (by kernel_rfl) (fun _ _ _ h => h) (Or.inr ⟨by rfl, rfl⟩) (by assumption) ?_
  simp only [Act.put, List.setIfInBounds_toArray, List.set_cons_zero, List.set_cons_succ]
  refine wpAnyH_take (i := 18) (oi := { dst := some 25, op := Op.binOp BinOp.gtr 5 (Operand.tmp 24) (Operand.const (Value.int IntKind.u8 3)) 5, type := 4, pos := "ref.go:68", after := #[{ on := 17, ground := Ground.data }, { on := 15, ground := Ground.guard }], guard := some (15, false) }) (v := undef) rfl (by kernel_rfl) (by kernel_rfl) (by kernel_rfl) (fun _ _ _ h => h) (Or.inr ⟨by rfl, rfl⟩) (by assumption) ?_
  simp only [Act.put, List.setIfInBounds_toArray, List.set_cons_zero, List.set_cons_succ]
  refine wpAnyH_take (i := 19) (oi := { dst := some 26, op := Op.pick (Operand.tmp 22) (Operand.const (Value.bool true)) (Operand.tmp 25), type := 4, pos := "ref.go:68", after := #[{ on := 15, ground := Ground.data }, { on := 18, ground := Ground.data }], guard := none }) (v := ?vvr2n19) rfl (by kernel_rfl) (by kernel_rfl) (by kernel_rfl) (fun _ _ _ h => h) (Or.inl ⟨by rfl, ?hyr2n19⟩) (by assumption) ?restr2n19
  case hyr2n19 => (intro w hSw; (try dsimp only at hSw); go_simp; try with_reducible rfl)
  simp only [Act.put, List.setIfInBounds_toArray, List.set_cons_zero, List.set_cons_succ]
  refine wpAnyH_done (by kernel_rfl) ?_ _
  go_wp2_with fail
  go_ret
  exact ⟨rfl, bThen hb hHeld2.2⟩

set_option maxHeartbeats 8000000 in
theorem wrong_typ (o : Ob) (desc valued : Bool) (w : World) (hk : o.kind ≤ 255) (h : kindB o.kind = true) (hx : trimOf o = o) (ht : (3 : Int) < o.typ) :
    Calls Tryz.prog 97 #[ob o, .bool desc, .bool valued] w fun e w' => e = .returned (.int .i64 40) ∧ Below w.heap.size w w' := by
  have hb : Below w.heap.size w w := Below.refl _ _
  obtain ⟨c, l, hw⟩ := word_some h
  have CW := fun W => Lib.hid (hw ▸ refWord_any o.kind W hk)
  have CT := fun W => Lib.hid (show Calls Tryz.prog 125 #[ob o] W fun e w' => e = .returned (ob o) ∧ Below W.heap.size W w' from by have := refTrim_any o W hk; rw [hx] at this; exact this)
  clear h hw hk hx
  go_enter Tryz.func97, Tryz.ntmps97
  go_wp2_with fail
  have mO := AtC.new w (obCells o) 35
  replace hb := bAl hb (.cells (obCells o) 35)
  generalize w.alloc (.cells (obCells o) 35) = W0 at *
  refine wp_region_held_drew (S := fun w' => (∀ i, w'.cell? ⟨w.heap.size, i, none⟩ = (obCells o)[i]?) ∧ Below W0.heap.size W0 w') (by kernel_rfl) ⟨(mO.drew1).c, (Below.refl _ _).drew⟩ (fun hHeld0 => ?_)
  refine wpAnyH_take (i := 0) (oi := { dst := some 7, op := Op.fieldAddr 35 (Operand.tmp 3) 1, type := 0, pos := "ref.go:68", after := #[], guard := none }) (v := ?vvr3n0) rfl (by kernel_rfl) (by kernel_rfl) (by kernel_rfl) (fun _ _ _ h => h) (Or.inl ⟨by rfl, ?hyr3n0⟩) (by assumption) ?restr3n0
  case hyr3n0 => (intro w hSw; (try dsimp only at hSw); go_simp; try with_reducible rfl)
  simp only [Act.put, List.setIfInBounds_toArray, List.set_cons_zero, List.set_cons_succ]
  refine wpAnyH_take (i := 1) (oi := { dst := some 8, op := Op.load 5 (Operand.tmp 7), type := 5, pos := "ref.go:68", after := #[{ on := 0, ground := Ground.data }], guard := none }) (v := ?vvr3n1) rfl (by kernel_rfl) (by kernel_rfl) (by kernel_rfl) (fun _ _ _ h => h) (Or.inl ⟨by rfl, ?hyr3n1⟩) (by assumption) ?restr3n1
  case hyr3n1 => (intro w hSw; (try dsimp only at hSw); go_simp; try with_reducible rfl)
  simp only [Act.put, List.setIfInBounds_toArray, List.set_cons_zero, List.set_cons_succ]
  refine wpAnyH_ready (rs := [2]) (by kernel_rfl) (by simp) ?_
  refine AllReadyH.cons (o := { dst := some 9, op := Op.call { callee := Callee.value (Operand.func 124), args := #[Operand.tmp 8], argTypes := #[5] }, type := 9, pos := "ref.go:68", after := #[{ on := 1, ground := Ground.data }], guard := none }) rfl (fun K hK => ?_) AllReadyH.nil
  go_simp
  refine (CW _).out.mono ?_
  rintro e w3 ⟨rfl, k3⟩
  go_wp2_with fail
  refine hK.out _ _ ⟨(mO.then (keepD hHeld0 k3)).c, keepD hHeld0 k3⟩ (fun hHeld1 => ?_)
  clear hK K hHeld0
  try simp only [Act.put, List.setIfInBounds_toArray, List.set_cons_zero, List.set_cons_succ]
  refine wpAnyH_take (i := 3) (oi := { dst := some 10, op := Op.binOp BinOp.eql 9 (Operand.tmp 9) (Operand.const (Value.string { data := #[] })) 9, type := 4, pos := "ref.go:68", after := #[{ on := 2, ground := Ground.data }], guard := none }) (v := ?vvr3n3) rfl (by kernel_rfl) (by kernel_rfl) (by kernel_rfl) (fun _ _ _ h => h) (Or.inl ⟨by rfl, ?hyr3n3⟩) (by assumption) ?restr3n3
  case hyr3n3 => (intro w hSw; (try dsimp only at hSw); go_simp; try with_reducible rfl)
  simp only [Act.put, List.setIfInBounds_toArray, List.set_cons_zero, List.set_cons_succ]
  refine wpAnyH_take (i := 4) (oi := { dst := some 11, op := Op.move (Operand.tmp 10), type := 4, pos := "ref.go:68", after := #[{ on := 3, ground := Ground.data }, { on := 2, ground := Ground.chain }], guard := none }) (v := ?vvr3n4) rfl (by kernel_rfl) (by kernel_rfl) (by kernel_rfl) (fun _ _ _ h => h) (Or.inl ⟨by rfl, ?hyr3n4⟩) (by assumption) ?restr3n4
  case hyr3n4 => (intro w hSw; (try dsimp only at hSw); go_simp; try with_reducible rfl)
  simp only [Act.put, List.setIfInBounds_toArray, List.set_cons_zero, List.set_cons_succ]
  refine wpAnyH_take (i := 5) (oi := { dst := some 12, op := Op.load 35 (Operand.tmp 3), type := 35, pos := "ref.go:68", after := #[{ on := 4, ground := Ground.guard }], guard := some (4, false) }) (v := ?vvr3n5) rfl (by kernel_rfl) (by kernel_rfl) (by kernel_rfl) (fun _ _ _ h => h) (Or.inl ⟨by rfl, ?hyr3n5⟩) (by assumption) ?restr3n5
  case hyr3n5 => (intro w hSw; (try dsimp only at hSw); go_simp; try with_reducible rfl)
  simp only [Act.put, List.setIfInBounds_toArray, List.set_cons_zero, List.set_cons_succ]
  refine wpAnyH_take (i := 7) (oi := { dst := some 14, op := Op.load 35 (Operand.tmp 3), type := 35, pos := "ref.go:68", after := #[{ on := 4, ground := Ground.guard }], guard := some (4, false) }) (v := ?vvr3n7) rfl (by kernel_rfl) (by kernel_rfl) (by kernel_rfl) (fun _ _ _ h => h) (Or.inl ⟨by rfl, ?hyr3n7⟩) (by assumption) ?restr3n7
  case hyr3n7 => (intro w hSw; (try dsimp only at hSw); go_simp; try with_reducible rfl)
  simp only [Act.put, List.setIfInBounds_toArray, List.set_cons_zero, List.set_cons_succ]
  refine wpAnyH_ready (rs := [6]) (by kernel_rfl) (by simp) ?_
  refine AllReadyH.cons (o := { dst := some 13, op := Op.call { callee := Callee.value (Operand.func 125), args := #[Operand.tmp 12], argTypes := #[35] }, type := 35, pos := "ref.go:68", after := #[{ on := 5, ground := Ground.data }, { on := 4, ground := Ground.chain }, { on := 4, ground := Ground.guard }], guard := some (4, false) }) rfl (fun K hK => ?_) AllReadyH.nil
  go_simp
  refine (CT _).out.mono ?_
  rintro e w3 ⟨rfl, k3⟩
  go_wp2_with fail
  refine hK.out _ _ ⟨(mO.then (keepD hHeld1 k3)).c, keepD hHeld1 k3⟩ (fun hHeld2 => ?_)
  clear hK K hHeld1
  try simp only [Act.put, List.setIfInBounds_toArray, List.set_cons_zero, List.set_cons_succ]
  refine wpAnyH_take (i := 8) (oi := { dst := some 15, op := Op.binOp BinOp.neq 35 (Operand.tmp 13) (Operand.tmp 14) 35, type := 4, pos := "ref.go:68", after := #[{ on := 6, ground := Ground.data }, { on := 7, ground := Ground.data }, { on := 4, ground := Ground.guard }], guard := some (4, false) }) (v := ?vvr3n8) rfl (by kernel_rfl) (by kernel_rfl) (by kernel_rfl) (fun _ _ _ h => h) (Or.inl ⟨by rfl, ?hyr3n8⟩) (by assumption) ?restr3n8
  case hyr3n8 => (intro w hSw; (try dsimp only at hSw); go_simp; try with_reducible rfl)
  simp only [Act.put, List.setIfInBounds_toArray, List.set_cons_zero, List.set_cons_succ]
  refine wpAnyH_take (i := 9) (oi := { dst := some 16, op := Op.pick (Operand.tmp 11) (Operand.const (Value.bool true)) (Operand.tmp 15), type := 4, pos := "ref.go:68", after := #[{ on := 4, ground := Ground.data }, { on := 8, ground := Ground.data }], guard := none }) (v := ?vvr3n9) rfl (by kernel_rfl) (by kernel_rfl) (by kernel_rfl) (fun _ _ _ h => h) (Or.inl ⟨by rfl, ?hyr3n9⟩) (by assumption) ?restr3n9
  case hyr3n9 => (intro w hSw; (try dsimp only at hSw); go_simp; try with_reducible rfl)
  simp only [Act.put, List.setIfInBounds_toArray, List.set_cons_zero, List.set_cons_succ]
  refine wpAnyH_take (i := 10) (oi := { dst := some 17, op := Op.move (Operand.tmp 16), type := 4, pos := "ref.go:68", after := #[{ on := 9, ground := Ground.data }, { on := 6, ground := Ground.chain }], guard := none }) (v := ?vvr3n10) rfl (by kernel_rfl) (by kernel_rfl) (by kernel_rfl) (fun _ _ _ h => h) (Or.inl ⟨by rfl, ?hyr3n10⟩) (by assumption) ?restr3n10
  case hyr3n10 => (intro w hSw; (try dsimp only at hSw); go_simp; try with_reducible rfl)
  simp only [Act.put, List.setIfInBounds_toArray, List.set_cons_zero, List.set_cons_succ]
  refine wpAnyH_take (i := 11) (oi := { dst := some 18, op := Op.fieldAddr 35 (Operand.tmp 3) 3, type := 0, pos := "ref.go:68", after := #[{ on := 10, ground := Ground.guard }], guard := some (10, false) }) (v := ?vvr3n11) rfl (by kernel_rfl) (by kernel_rfl) (by kernel_rfl) (fun _ _ _ h => h) (Or.inl ⟨by rfl, ?hyr3n11⟩) (by assumption) ?restr3n11
  case hyr3n11 => (intro w hSw; (try dsimp only at hSw); go_simp; try with_reducible rfl)
  simp only [Act.put, List.setIfInBounds_toArray, List.set_cons_zero, List.set_cons_succ]
  refine wpAnyH_take (i := 12) (oi := { dst := some 19, op := Op.load 5 (Operand.tmp 18), type := 5, pos := "ref.go:68", after := #[{ on := 11, ground := Ground.data }, { on := 10, ground := Ground.guard }], guard := some (10, false) }) (v := ?vvr3n12) rfl (by kernel_rfl) (by kernel_rfl) (by kernel_rfl) (fun _ _ _ h => h) (Or.inl ⟨by rfl, ?hyr3n12⟩) (by assumption) ?restr3n12
  case hyr3n12 => (intro w hSw; (try dsimp only at hSw); go_simp; try with_reducible rfl)
  simp only [Act.put, List.setIfInBounds_toArray, List.set_cons_zero, List.set_cons_succ]
  refine wpAnyH_take (i := 13) (oi := { dst := some 20, op := Op.binOp BinOp.gtr 5 (Operand.tmp 19) (Operand.const (Value.int IntKind.u8 3)) 5, type := 4, pos := "ref.go:68", after := #[{ on := 12, ground := Ground.data }, { on := 10, ground := Ground.guard }], guard := some (10, false) }) (v := ?vvr3n13) rfl (by kernel_rfl) (by kernel_rfl) (by kernel_rfl) (fun _ _ _ h => h) (Or.inl ⟨by rfl, ?hyr3n13⟩) (by assumption) ?restr3n13
  case hyr3n13 => (intro w hSw; (try dsimp only at hSw); go_simp; try with_reducible rfl)
  simp only [Act.put, List.setIfInBounds_toArray, List.set_cons_zero, List.set_cons_succ]
  refine wpAnyH_take (i := 14) (oi := { dst := some 21, op := Op.pick (Operand.tmp 17) (Operand.const (Value.bool true)) (Operand.tmp 20), type := 4, pos := "ref.go:68", after := #[{ on := 10, ground := Ground.data }, { on := 13, ground := Ground.data }], guard := none }) (v := ?vvr3n14) rfl (by kernel_rfl) (by kernel_rfl) (by kernel_rfl) (fun _ _ _ h => h) (Or.inl ⟨by rfl, ?hyr3n14⟩) (by assumption) ?restr3n14
  case hyr3n14 => (intro w hSw; (try dsimp only at hSw); go_simp; try with_reducible rfl)
  simp only [Act.put, List.setIfInBounds_toArray, List.set_cons_zero, List.set_cons_succ]
  refine wpAnyH_take (i := 15) (oi := { dst := some 22, op := Op.move (Operand.tmp 21), type := 4, pos := "ref.go:68", after := #[{ on := 14, ground := Ground.data }, { on := 10, ground := Ground.chain }], guard := none }) (v := ?vvr3n15) rfl (by kernel_rfl) (by kernel_rfl) (by kernel_rfl) (fun _ _ _ h => h) (Or.inl ⟨by rfl, ?hyr3n15⟩) (by assumption) ?restr3n15
  case hyr3n15 => (intro w hSw; (try dsimp only at hSw); go_simp; try with_reducible rfl)
  simp only [Act.put, List.setIfInBounds_toArray, List.set_cons_zero, List.set_cons_succ]
  refine wpAnyH_take (i := 16) (oi := { dst := some 23, op := Op.fieldAddr 35 (Operand.tmp 3) 13, type := 0, pos := "ref.go:68", after := #[{ on := 15, ground := Ground.guard }], guard := some (15, false) }) (v := undef) rfl (by kernel_rfl) (by kernel_rfl) (by kernel_rfl) (fun _ _ _ h => h) (Or.inr ⟨by rfl, rfl⟩) (by assumption) ?_
  simp only [Act.put, List.setIfInBounds_toArray, List.set_cons_zero, List.set_cons_succ]
  refine wpAnyH_take (i := 17) (oi := { dst := some 24, op := Op.load 5 (Operand.tmp 23), type := 5, pos := "ref.go:68", after := #[{ on := 16, ground := Ground.data }, { on := 15, ground := Ground.guard }], guard := some (15, false) }) (v := undef) rfl (by kernel_rfl) (by kernel_rfl) (by kernel_rfl) (fun _ _ _ h => h) (Or.inr ⟨by rfl, rfl⟩) (by assumption) ?_
  simp only [Act.put, List.setIfInBounds_toArray, List.set_cons_zero, List.set_cons_succ]
  refine wpAnyH_take (i := 18) (oi := { dst := some 25, op := Op.binOp BinOp.gtr 5 (Operand.tmp 24) (Operand.const (Value.int IntKind.u8 3)) 5, type := 4, pos := "ref.go:68", after := #[{ on := 17, ground := Ground.data }, { on := 15, ground := Ground.guard }], guard := some (15, false) }) (v := undef) rfl (by kernel_rfl) (by kernel_rfl) (by kernel_rfl) (fun _ _ _ h => h) (Or.inr ⟨by rfl, rfl⟩) (by assumption) ?_
  simp only [Act.put, List.setIfInBounds_toArray, List.set_cons_zero, List.set_cons_succ]
  refine wpAnyH_take (i := 19) (oi := { dst := some 26, op := Op.pick (Operand.tmp 22) (Operand.const (Value.bool true)) (Operand.tmp 25), type := 4, pos := "ref.go:68", after := #[{ on := 15, ground := Ground.data }, { on := 18, ground := Ground.data }], guard := none }) (v := ?vvr3n19) rfl (by kernel_rfl) (by kernel_rfl) (by kernel_rfl) (fun _ _ _ h => h) (Or.inl ⟨by rfl, ?hyr3n19⟩) (by assumption) ?restr3n19
  case hyr3n19 => (intro w hSw; (try dsimp only at hSw); go_simp; try with_reducible rfl)
  simp only [Act.put, List.setIfInBounds_toArray, List.set_cons_zero, List.set_cons_succ]
  refine wpAnyH_done (by kernel_rfl) ?_ _
  go_wp2_with fail
  go_ret
  exact ⟨rfl, bThen hb hHeld2.2⟩

set_option maxHeartbeats 8000000 in
theorem wrong_assoc (o : Ob) (desc valued : Bool) (w : World) (hk : o.kind ≤ 255) (h : kindB o.kind = true) (hx : trimOf o = o) (ht : ¬ (3 : Int) < o.typ) (ha : (3 : Int) < o.assoc) :
    Calls Tryz.prog 97 #[ob o, .bool desc, .bool valued] w fun e w' => e = .returned (.int .i64 40) ∧ Below w.heap.size w w' := by
  have hb : Below w.heap.size w w := Below.refl _ _
  obtain ⟨c, l, hw⟩ := word_some h
  have CW := fun W => Lib.hid (hw ▸ refWord_any o.kind W hk)
  have CT := fun W => Lib.hid (show Calls Tryz.prog 125 #[ob o] W fun e w' => e = .returned (ob o) ∧ Below W.heap.size W w' from by have := refTrim_any o W hk; rw [hx] at this; exact this)
  clear h hw hk hx
  go_enter Tryz.func97, Tryz.ntmps97
  go_wp2_with fail
  have mO := AtC.new w (obCells o) 35
  replace hb := bAl hb (.cells (obCells o) 35)
  generalize w.alloc (.cells (obCells o) 35) = W0 at *
  refine wp_region_held_drew (S := fun w' => (∀ i, w'.cell? ⟨w.heap.size, i, none⟩ = (obCells o)[i]?) ∧ Below W0.heap.size W0 w') (by kernel_rfl) ⟨(mO.drew1).c, (Below.refl _ _).drew⟩ (fun hHeld0 => ?_)
  refine wpAnyH_take (i := 0) (oi := { dst := some 7, op := Op.fieldAddr 35 (Operand.tmp 3) 1, type := 0, pos := "ref.go:68", after := #[], guard := none }) (v := ?vvr4n0) rfl (by kernel_rfl) (by kernel_rfl) (by kernel_rfl) (fun _ _ _ h => h) (Or.inl ⟨by rfl, ?hyr4n0⟩) (by assumption) ?restr4n0
  case hyr4n0 => (intro w hSw; (try dsimp only at hSw); go_simp; try with_reducible rfl)
  simp only [Act.put, List.setIfInBounds_toArray, List.set_cons_zero, List.set_cons_succ]
  refine wpAnyH_take (i := 1) (oi := { dst := some 8, op := Op.load 5 (Operand.tmp 7), type := 5, pos := "ref.go:68", after := #[{ on := 0, ground := Ground.data }], guard := none }) (v := ?vvr4n1) rfl (by kernel_rfl) (by kernel_rfl) (by kernel_rfl) (fun _ _ _ h => h) (Or.inl ⟨by rfl, ?hyr4n1⟩) (by assumption) ?restr4n1
  case hyr4n1 => (intro w hSw; (try dsimp only at hSw); go_simp; try with_reducible rfl)
  simp only [Act.put, List.setIfInBounds_toArray, List.set_cons_zero, List.set_cons_succ]
  refine wpAnyH_ready (rs := [2]) (by kernel_rfl) (by simp) ?_
  refine AllReadyH.cons (o := { dst := some 9, op := Op.call { callee := Callee.value (Operand.func 124), args := #[Operand.tmp 8], argTypes := #[5] }, type := 9, pos := "ref.go:68", after := #[{ on := 1, ground := Ground.data }], guard := none }) rfl (fun K hK => ?_) AllReadyH.nil
  go_simp
  refine (CW _).out.mono ?_
  rintro e w3 ⟨rfl, k3⟩
  go_wp2_with fail
  refine hK.out _ _ ⟨(mO.then (keepD hHeld0 k3)).c, keepD hHeld0 k3⟩ (fun hHeld1 => ?_)
  clear hK K hHeld0
  try simp only [Act.put, List.setIfInBounds_toArray, List.set_cons_zero, List.set_cons_succ]
  refine wpAnyH_take (i := 3) (oi := { dst := some 10, op := Op.binOp BinOp.eql 9 (Operand.tmp 9) (Operand.const (Value.string { data := #[] })) 9, type := 4, pos := "ref.go:68", after := #[{ on := 2, ground := Ground.data }], guard := none }) (v := ?vvr4n3) rfl (by kernel_rfl) (by kernel_rfl) (by kernel_rfl) (fun _ _ _ h => h) (Or.inl ⟨by rfl, ?hyr4n3⟩) (by assumption) ?restr4n3
  case hyr4n3 => (intro w hSw; (try dsimp only at hSw); go_simp; try with_reducible rfl)
  simp only [Act.put, List.setIfInBounds_toArray, List.set_cons_zero, List.set_cons_succ]
  refine wpAnyH_take (i := 4) (oi := { dst := some 11, op := Op.move (Operand.tmp 10), type := 4, pos := "ref.go:68", after := #[{ on := 3, ground := Ground.data }, { on := 2, ground := Ground.chain }], guard := none }) (v := ?vvr4n4) rfl (by kernel_rfl) (by kernel_rfl) (by kernel_rfl) (fun _ _ _ h => h) (Or.inl ⟨by rfl, ?hyr4n4⟩) (by assumption) ?restr4n4
  case hyr4n4 => (intro w hSw; (try dsimp only at hSw); go_simp; try with_reducible rfl)
  simp only [Act.put, List.setIfInBounds_toArray, List.set_cons_zero, List.set_cons_succ]
  refine wpAnyH_take (i := 5) (oi := { dst := some 12, op := Op.load 35 (Operand.tmp 3), type := 35, pos := "ref.go:68", after := #[{ on := 4, ground := Ground.guard }], guard := some (4, false) }) (v := ?vvr4n5) rfl (by kernel_rfl) (by kernel_rfl) (by kernel_rfl) (fun _ _ _ h => h) (Or.inl ⟨by rfl, ?hyr4n5⟩) (by assumption) ?restr4n5
  case hyr4n5 => (intro w hSw; (try dsimp only at hSw); go_simp; try with_reducible rfl)
  simp only [Act.put, List.setIfInBounds_toArray, List.set_cons_zero, List.set_cons_succ]
  refine wpAnyH_take (i := 7) (oi := { dst := some 14, op := Op.load 35 (Operand.tmp 3), type := 35, pos := "ref.go:68", after := #[{ on := 4, ground := Ground.guard }], guard := some (4, false) }) (v := ?vvr4n7) rfl (by kernel_rfl) (by kernel_rfl) (by kernel_rfl) (fun _ _ _ h => h) (Or.inl ⟨by rfl, ?hyr4n7⟩) (by assumption) ?restr4n7
  case hyr4n7 => (intro w hSw; (try dsimp only at hSw); go_simp; try with_reducible rfl)
  simp only [Act.put, List.setIfInBounds_toArray, List.set_cons_zero, List.set_cons_succ]
  refine wpAnyH_ready (rs := [6]) (by kernel_rfl) (by simp) ?_
  refine AllReadyH.cons (o := { dst := some 13, op := Op.call { callee := Callee.value (Operand.func 125), args := #[Operand.tmp 12], argTypes := #[35] }, type := 35, pos := "ref.go:68", after := #[{ on := 5, ground := Ground.data }, { on := 4, ground := Ground.chain }, { on := 4, ground := Ground.guard }], guard := some (4, false) }) rfl (fun K hK => ?_) AllReadyH.nil
  go_simp
  refine (CT _).out.mono ?_
  rintro e w3 ⟨rfl, k3⟩
  go_wp2_with fail
  refine hK.out _ _ ⟨(mO.then (keepD hHeld1 k3)).c, keepD hHeld1 k3⟩ (fun hHeld2 => ?_)
  clear hK K hHeld1
  try simp only [Act.put, List.setIfInBounds_toArray, List.set_cons_zero, List.set_cons_succ]
  refine wpAnyH_take (i := 8) (oi := { dst := some 15, op := Op.binOp BinOp.neq 35 (Operand.tmp 13) (Operand.tmp 14) 35, type := 4, pos := "ref.go:68", after := #[{ on := 6, ground := Ground.data }, { on := 7, ground := Ground.data }, { on := 4, ground := Ground.guard }], guard := some (4, false) }) (v := ?vvr4n8) rfl (by kernel_rfl) (by kernel_rfl) (by kernel_rfl) (fun _ _ _ h => h) (Or.inl ⟨by rfl, ?hyr4n8⟩) (by assumption) ?restr4n8
  case hyr4n8 => (intro w hSw; (try dsimp only at hSw); go_simp; try with_reducible rfl)
  simp only [Act.put, List.setIfInBounds_toArray, List.set_cons_zero, List.set_cons_succ]
  refine wpAnyH_take (i := 9) (oi := { dst := some 16, op := Op.pick (Operand.tmp 11) (Operand.const (Value.bool true)) (Operand.tmp 15), type := 4, pos := "ref.go:68", after := #[{ on := 4, ground := Ground.data }, { on := 8, ground := Ground.data }], guard := none }) (v := ?vvr4n9) rfl (by kernel_rfl) (by kernel_rfl) (by kernel_rfl) (fun _ _ _ h => h) (Or.inl ⟨by rfl, ?hyr4n9⟩) (by assumption) ?restr4n9
  case hyr4n9 => (intro w hSw; (try dsimp only at hSw); go_simp; try with_reducible rfl)
  simp only [Act.put, List.setIfInBounds_toArray, List.set_cons_zero, List.set_cons_succ]
  refine wpAnyH_take (i := 10) (oi := { dst := some 17, op := Op.move (Operand.tmp 16), type := 4, pos := "ref.go:68", after := #[{ on := 9, ground := Ground.data }, { on := 6, ground := Ground.chain }], guard := none }) (v := ?vvr4n10) rfl (by kernel_rfl) (by kernel_rfl) (by kernel_rfl) (fun _ _ _ h => h) (Or.inl ⟨by rfl, ?hyr4n10⟩) (by assumption) ?restr4n10
  case hyr4n10 => (intro w hSw; (try dsimp only at hSw); go_simp; try with_reducible rfl)
  simp only [Act.put, List.setIfInBounds_toArray, List.set_cons_zero, List.set_cons_succ]
  refine wpAnyH_take (i := 11) (oi := { dst := some 18, op := Op.fieldAddr 35 (Operand.tmp 3) 3, type := 0, pos := "ref.go:68", after := #[{ on := 10, ground := Ground.guard }], guard := some (10, false) }) (v := ?vvr4n11) rfl (by kernel_rfl) (by kernel_rfl) (by kernel_rfl) (fun _ _ _ h => h) (Or.inl ⟨by rfl, ?hyr4n11⟩) (by assumption) ?restr4n11
  case hyr4n11 => (intro w hSw; (try dsimp only at hSw); go_simp; try with_reducible rfl)
  simp only [Act.put, List.setIfInBounds_toArray, List.set_cons_zero, List.set_cons_succ]
  refine wpAnyH_take (i := 12) (oi := { dst := some 19, op := Op.load 5 (Operand.tmp 18), type := 5, pos := "ref.go:68", after := #[{ on := 11, ground := Ground.data }, { on := 10, ground := Ground.guard }], guard := some (10, false) }) (v := ?vvr4n12) rfl (by kernel_rfl) (by kernel_rfl) (by kernel_rfl) (fun _ _ _ h => h) (Or.inl ⟨by rfl, ?hyr4n12⟩) (by assumption) ?restr4n12
  case hyr4n12 => (intro w hSw; (try dsimp only at hSw); go_simp; try with_reducible rfl)
  simp only [Act.put, List.setIfInBounds_toArray, List.set_cons_zero, List.set_cons_succ]
  refine wpAnyH_take (i := 13) (oi := { dst := some 20, op := Op.binOp BinOp.gtr 5 (Operand.tmp 19) (Operand.const (Value.int IntKind.u8 3)) 5, type := 4, pos := "ref.go:68", after := #[{ on := 12, ground := Ground.data }, { on := 10, ground := Ground.guard }], guard := some (10, false) }) (v := Value.bool false) rfl (by kernel_rfl) (by kernel_rfl) (by kernel_rfl) (fun _ _ _ h => h) (Or.inl ⟨by rfl, ?hyr4n13⟩) (by assumption) ?restr4n13
  case hyr4n13 => (intro w hSw; (try dsimp only at hSw); go_simp; all_goals (first | omega | assumption))
  simp only [Act.put, List.setIfInBounds_toArray, List.set_cons_zero, List.set_cons_succ]
  refine wpAnyH_take (i := 14) (oi := { dst := some 21, op := Op.pick (Operand.tmp 17) (Operand.const (Value.bool true)) (Operand.tmp 20), type := 4, pos := "ref.go:68", after := #[{ on := 10, ground := Ground.data }, { on := 13, ground := Ground.data }], guard := none }) (v := ?vvr4n14) rfl (by kernel_rfl) (by kernel_rfl) (by kernel_rfl) (fun _ _ _ h => h) (Or.inl ⟨by rfl, ?hyr4n14⟩) (by assumption) ?restr4n14
  case hyr4n14 => (intro w hSw; (try dsimp only at hSw); go_simp; try with_reducible rfl)
  simp only [Act.put, List.setIfInBounds_toArray, List.set_cons_zero, List.set_cons_succ]
  refine wpAnyH_take (i := 15) (oi := { dst := some 22, op := Op.move (Operand.tmp 21), type := 4, pos := "ref.go:68", after := #[{ on := 14, ground := Ground.data }, { on := 10, ground := Ground.chain }], guard := none }) (v := ?vvr4n15) rfl (by kernel_rfl) (by kernel_rfl) (by kernel_rfl) (fun _ _ _ h => h) (Or.inl ⟨by rfl, ?hyr4n15⟩) (by assumption) ?restr4n15
  case hyr4n15 => (intro w hSw; (try dsimp only at hSw); go_simp; try with_reducible rfl)
  simp only [Act.put, List.setIfInBounds_toArray, List.set_cons_zero, List.set_cons_succ]
  refine wpAnyH_take (i := 16) (oi := { dst := some 23, op := Op.fieldAddr 35 (Operand.tmp 3) 13, type := 0, pos := "ref.go:68", after := #[{ on := 15, ground := Ground.guard }], guard := some (15, false) }) (v := ?vvr4n16) rfl (by kernel_rfl) (by kernel_rfl) (by kernel_rfl) (fun _ _ _ h => h) (Or.inl ⟨by rfl, ?hyr4n16⟩) (by assumption) ?restr4n16
  case hyr4n16 => (intro w hSw; (try dsimp only at hSw); go_simp; try with_reducible rfl)
  simp only [Act.put, List.setIfInBounds_toArray, List.set_cons_zero, List.set_cons_succ]
  refine wpAnyH_take (i := 17) (oi := { dst := some 24, op := Op.load 5 (Operand.tmp 23), type := 5, pos := "ref.go:68", after := #[{ on := 16, ground := Ground.data }, { on := 15, ground := Ground.guard }], guard := some (15, false) }) (v := ?vvr4n17) rfl (by kernel_rfl) (by kernel_rfl) (by kernel_rfl) (fun _ _ _ h => h) (Or.inl ⟨by rfl, ?hyr4n17⟩) (by assumption) ?restr4n17
  case hyr4n17 => (intro w hSw; (try dsimp only at hSw); go_simp; try with_reducible rfl)
  simp only [Act.put, List.setIfInBounds_toArray, List.set_cons_zero, List.set_cons_succ]
  refine wpAnyH_take (i := 18) (oi := { dst := some 25, op := Op.binOp BinOp.gtr 5 (Operand.tmp 24) (Operand.const (Value.int IntKind.u8 3)) 5, type := 4, pos := "ref.go:68", after := #[{ on := 17, ground := Ground.data }, { on := 15, ground := Ground.guard }], guard := some (15, false) }) (v := ?vvr4n18) rfl (by kernel_rfl) (by kernel_rfl) (by kernel_rfl) (fun _ _ _ h => h) (Or.inl ⟨by rfl, ?hyr4n18⟩) (by assumption) ?restr4n18
  case hyr4n18 => (intro w hSw; (try dsimp only at hSw); go_simp; try with_reducible rfl)
  simp only [Act.put, List.setIfInBounds_toArray, List.set_cons_zero, List.set_cons_succ]
  refine wpAnyH_take (i := 19) (oi := { dst := some 26, op := Op.pick (Operand.tmp 22) (Operand.const (Value.bool true)) (Operand.tmp 25), type := 4, pos := "ref.go:68", after := #[{ on := 15, ground := Ground.data }, { on := 18, ground := Ground.data }], guard := none }) (v := ?vvr4n19) rfl (by kernel_rfl) (by kernel_rfl) (by kernel_rfl) (fun _ _ _ h => h) (Or.inl ⟨by rfl, ?hyr4n19⟩) (by assumption) ?restr4n19
  case hyr4n19 => (intro w hSw; (try dsimp only at hSw); go_simp; try with_reducible rfl)
  simp only [Act.put, List.setIfInBounds_toArray, List.set_cons_zero, List.set_cons_succ]
  refine wpAnyH_done (by kernel_rfl) ?_ _
  go_wp2_with fail
  go_ret
  exact ⟨rfl, bThen hb hHeld2.2⟩

set_option maxHeartbeats 8000000 in
theorem wrong_rest (o : Ob) (desc valued : Bool) (w : World) (hk : o.kind ≤ 255) (h : kindB o.kind = true) (hx : trimOf o = o) (ht : ¬ (3 : Int) < o.typ) (ha : ¬ (3 : Int) < o.assoc) (z1 : o.handle.size ≤ maxLen) (z2 : o.parent.size ≤ maxLen) (z3 : o.ref.size ≤ maxLen) (res : Int) (hr : faultR o desc valued = res) :
    Calls Tryz.prog 97 #[ob o, .bool desc, .bool valued] w fun e w' => e = .returned (.int .i64 res) ∧ Below w.heap.size w w' := by
  have hb : Below w.heap.size w w := Below.refl _ _
  obtain ⟨c, l, hw⟩ := word_some h
  have CW := fun W => Lib.hid (hw ▸ refWord_any o.kind W hk)
  have H1 := fun W => Lib.hid (HL.refMay_any o.handle W z1)
  have H2 := fun W => Lib.hid (HL.refMay_any o.parent W z2)
  have H3 := fun W => Lib.hid (HL.refMay_any o.ref W z3)
  have N1 := fun W => Lib.hid (refMay_any o.lo W)
  have N2 := fun W => Lib.hid (refMay_any o.hi W)
  have N3 := fun W => Lib.hid (refMay_any o.value W)
  have N4 := fun W => Lib.hid (refMay_any o.low W)
  have N5 := fun W => Lib.hid (refMay_any o.high W)
  have R1 := fun W => Lib.hid (refRefers_any o.kind W hk)
  have R2 := fun W => Lib.hid (refRefers_any 1 W (by omega))
  have HR : Hid ((o.kind : Int) = 1 → refersB o.kind = false) := Lib.hid (fun e => by unfold refersB; exact decide_eq_false (by omega))
  have HV := Lib.hid hr
  unfold faultR at HV
  clear hr
  generalize HL.mayB o.handle = b1 at *
  generalize HL.mayB o.parent = b2 at *
  generalize HL.mayB o.ref = b3 at *
  generalize mayB o.lo = c1 at *
  generalize mayB o.hi = c2 at *
  generalize mayB o.value = c3 at *
  generalize mayB o.low = c4 at *
  generalize mayB o.high = c5 at *
  generalize refersB o.kind = rf at *
  have CT := fun W => Lib.hid (show Calls Tryz.prog 125 #[ob o] W fun e w' => e = .returned (ob o) ∧ Below W.heap.size W w' from by have := refTrim_any o W hk; rw [hx] at this; exact this)
  clear h hw hk hx z1 z2 z3
  go_enter Tryz.func97, Tryz.ntmps97
  go_wp2_with fail
  have mO := AtC.new w (obCells o) 35
  replace hb := bAl hb (.cells (obCells o) 35)
  generalize w.alloc (.cells (obCells o) 35) = W0 at *
  refine wp_region_held_drew (S := fun w' => (∀ i, w'.cell? ⟨w.heap.size, i, none⟩ = (obCells o)[i]?) ∧ Below W0.heap.size W0 w') (by kernel_rfl) ⟨(mO.drew1).c, (Below.refl _ _).drew⟩ (fun hHeld0 => ?_)
  refine wpAnyH_take (i := 0) (oi := { dst := some 7, op := Op.fieldAddr 35 (Operand.tmp 3) 1, type := 0, pos := "ref.go:68", after := #[], guard := none }) (v := ?vvr5n0) rfl (by kernel_rfl) (by kernel_rfl) (by kernel_rfl) (fun _ _ _ h => h) (Or.inl ⟨by rfl, ?hyr5n0⟩) (by assumption) ?restr5n0
  case hyr5n0 => (intro w hSw; (try dsimp only at hSw); go_simp; try with_reducible rfl)
  simp only [Act.put, List.setIfInBounds_toArray, List.set_cons_zero, List.set_cons_succ]
  refine wpAnyH_take (i := 1) (oi := { dst := some 8, op := Op.load 5 (Operand.tmp 7), type := 5, pos := "ref.go:68", after := #[{ on := 0, ground := Ground.data }], guard := none }) (v := ?vvr5n1) rfl (by kernel_rfl) (by kernel_rfl) (by kernel_rfl) (fun _ _ _ h => h) (Or.inl ⟨by rfl, ?hyr5n1⟩) (by assumption) ?restr5n1
  case hyr5n1 => (intro w hSw; (try dsimp only at hSw); go_simp; try with_reducible rfl)
  simp only [Act.put, List.setIfInBounds_toArray, List.set_cons_zero, List.set_cons_succ]
  refine wpAnyH_ready (rs := [2]) (by kernel_rfl) (by simp) ?_
  refine AllReadyH.cons (o := { dst := some 9, op := Op.call { callee := Callee.value (Operand.func 124), args := #[Operand.tmp 8], argTypes := #[5] }, type := 9, pos := "ref.go:68", after := #[{ on := 1, ground := Ground.data }], guard := none }) rfl (fun K hK => ?_) AllReadyH.nil
  go_simp
  refine (CW _).out.mono ?_
  rintro e w3 ⟨rfl, k3⟩
  go_wp2_with fail
  refine hK.out _ _ ⟨(mO.then (keepD hHeld0 k3)).c, keepD hHeld0 k3⟩ (fun hHeld1 => ?_)
  clear hK K hHeld0
  try simp only [Act.put, List.setIfInBounds_toArray, List.set_cons_zero, List.set_cons_succ]
  refine wpAnyH_take (i := 3) (oi := { dst := some 10, op := Op.binOp BinOp.eql 9 (Operand.tmp 9) (Operand.const (Value.string { data := #[] })) 9, type := 4, pos := "ref.go:68", after := #[{ on := 2, ground := Ground.data }], guard := none }) (v := ?vvr5n3) rfl (by kernel_rfl) (by kernel_rfl) (by kernel_rfl) (fun _ _ _ h => h) (Or.inl ⟨by rfl, ?hyr5n3⟩) (by assumption) ?restr5n3
  case hyr5n3 => (intro w hSw; (try dsimp only at hSw); go_simp; try with_reducible rfl)
  simp only [Act.put, List.setIfInBounds_toArray, List.set_cons_zero, List.set_cons_succ]
  refine wpAnyH_take (i := 4) (oi := { dst := some 11, op := Op.move (Operand.tmp 10), type := 4, pos := "ref.go:68", after := #[{ on := 3, ground := Ground.data }, { on := 2, ground := Ground.chain }], guard := none }) (v := ?vvr5n4) rfl (by kernel_rfl) (by kernel_rfl) (by kernel_rfl) (fun _ _ _ h => h) (Or.inl ⟨by rfl, ?hyr5n4⟩) (by assumption) ?restr5n4
  case hyr5n4 => (intro w hSw; (try dsimp only at hSw); go_simp; try with_reducible rfl)
  simp only [Act.put, List.setIfInBounds_toArray, List.set_cons_zero, List.set_cons_succ]
  refine wpAnyH_take (i := 5) (oi := { dst := some 12, op := Op.load 35 (Operand.tmp 3), type := 35, pos := "ref.go:68", after := #[{ on := 4, ground := Ground.guard }], guard := some (4, false) }) (v := ?vvr5n5) rfl (by kernel_rfl) (by kernel_rfl) (by kernel_rfl) (fun _ _ _ h => h) (Or.inl ⟨by rfl, ?hyr5n5⟩) (by assumption) ?restr5n5
  case hyr5n5 => (intro w hSw; (try dsimp only at hSw); go_simp; try with_reducible rfl)
  simp only [Act.put, List.setIfInBounds_toArray, List.set_cons_zero, List.set_cons_succ]
  refine wpAnyH_take (i := 7) (oi := { dst := some 14, op := Op.load 35 (Operand.tmp 3), type := 35, pos := "ref.go:68", after := #[{ on := 4, ground := Ground.guard }], guard := some (4, false) }) (v := ?vvr5n7) rfl (by kernel_rfl) (by kernel_rfl) (by kernel_rfl) (fun _ _ _ h => h) (Or.inl ⟨by rfl, ?hyr5n7⟩) (by assumption) ?restr5n7
  case hyr5n7 => (intro w hSw; (try dsimp only at hSw); go_simp; try with_reducible rfl)
  simp only [Act.put, List.setIfInBounds_toArray, List.set_cons_zero, List.set_cons_succ]
  refine wpAnyH_ready (rs := [6]) (by kernel_rfl) (by simp) ?_
  refine AllReadyH.cons (o := { dst := some 13, op := Op.call { callee := Callee.value (Operand.func 125), args := #[Operand.tmp 12], argTypes := #[35] }, type := 35, pos := "ref.go:68", after := #[{ on := 5, ground := Ground.data }, { on := 4, ground := Ground.chain }, { on := 4, ground := Ground.guard }], guard := some (4, false) }) rfl (fun K hK => ?_) AllReadyH.nil
  go_simp
  refine (CT _).out.mono ?_
  rintro e w3 ⟨rfl, k3⟩
  go_wp2_with fail
  refine hK.out _ _ ⟨(mO.then (keepD hHeld1 k3)).c, keepD hHeld1 k3⟩ (fun hHeld2 => ?_)
  clear hK K hHeld1
  try simp only [Act.put, List.setIfInBounds_toArray, List.set_cons_zero, List.set_cons_succ]
  refine wpAnyH_take (i := 8) (oi := { dst := some 15, op := Op.binOp BinOp.neq 35 (Operand.tmp 13) (Operand.tmp 14) 35, type := 4, pos := "ref.go:68", after := #[{ on := 6, ground := Ground.data }, { on := 7, ground := Ground.data }, { on := 4, ground := Ground.guard }], guard := some (4, false) }) (v := ?vvr5n8) rfl (by kernel_rfl) (by kernel_rfl) (by kernel_rfl) (fun _ _ _ h => h) (Or.inl ⟨by rfl, ?hyr5n8⟩) (by assumption) ?restr5n8
  case hyr5n8 => (intro w hSw; (try dsimp only at hSw); go_simp; try with_reducible rfl)
  simp only [Act.put, List.setIfInBounds_toArray, List.set_cons_zero, List.set_cons_succ]
  refine wpAnyH_take (i := 9) (oi := { dst := some 16, op := Op.pick (Operand.tmp 11) (Operand.const (Value.bool true)) (Operand.tmp 15), type := 4, pos := "ref.go:68", after := #[{ on := 4, ground := Ground.data }, { on := 8, ground := Ground.data }], guard := none }) (v := ?vvr5n9) rfl (by kernel_rfl) (by kernel_rfl) (by kernel_rfl) (fun _ _ _ h => h) (Or.inl ⟨by rfl, ?hyr5n9⟩) (by assumption) ?restr5n9
  case hyr5n9 => (intro w hSw; (try dsimp only at hSw); go_simp; try with_reducible rfl)
  simp only [Act.put, List.setIfInBounds_toArray, List.set_cons_zero, List.set_cons_succ]
  refine wpAnyH_take (i := 10) (oi := { dst := some 17, op := Op.move (Operand.tmp 16), type := 4, pos := "ref.go:68", after := #[{ on := 9, ground := Ground.data }, { on := 6, ground := Ground.chain }], guard := none }) (v := ?vvr5n10) rfl (by kernel_rfl) (by kernel_rfl) (by kernel_rfl) (fun _ _ _ h => h) (Or.inl ⟨by rfl, ?hyr5n10⟩) (by assumption) ?restr5n10
  case hyr5n10 => (intro w hSw; (try dsimp only at hSw); go_simp; try with_reducible rfl)
  simp only [Act.put, List.setIfInBounds_toArray, List.set_cons_zero, List.set_cons_succ]
  refine wpAnyH_take (i := 11) (oi := { dst := some 18, op := Op.fieldAddr 35 (Operand.tmp 3) 3, type := 0, pos := "ref.go:68", after := #[{ on := 10, ground := Ground.guard }], guard := some (10, false) }) (v := ?vvr5n11) rfl (by kernel_rfl) (by kernel_rfl) (by kernel_rfl) (fun _ _ _ h => h) (Or.inl ⟨by rfl, ?hyr5n11⟩) (by assumption) ?restr5n11
  case hyr5n11 => (intro w hSw; (try dsimp only at hSw); go_simp; try with_reducible rfl)
  simp only [Act.put, List.setIfInBounds_toArray, List.set_cons_zero, List.set_cons_succ]
  refine wpAnyH_take (i := 12) (oi := { dst := some 19, op := Op.load 5 (Operand.tmp 18), type := 5, pos := "ref.go:68", after := #[{ on := 11, ground := Ground.data }, { on := 10, ground := Ground.guard }], guard := some (10, false) }) (v := ?vvr5n12) rfl (by kernel_rfl) (by kernel_rfl) (by kernel_rfl) (fun _ _ _ h => h) (Or.inl ⟨by rfl, ?hyr5n12⟩) (by assumption) ?restr5n12
  case hyr5n12 => (intro w hSw; (try dsimp only at hSw); go_simp; try with_reducible rfl)
  simp only [Act.put, List.setIfInBounds_toArray, List.set_cons_zero, List.set_cons_succ]
  refine wpAnyH_take (i := 13) (oi := { dst := some 20, op := Op.binOp BinOp.gtr 5 (Operand.tmp 19) (Operand.const (Value.int IntKind.u8 3)) 5, type := 4, pos := "ref.go:68", after := #[{ on := 12, ground := Ground.data }, { on := 10, ground := Ground.guard }], guard := some (10, false) }) (v := Value.bool false) rfl (by kernel_rfl) (by kernel_rfl) (by kernel_rfl) (fun _ _ _ h => h) (Or.inl ⟨by rfl, ?hyr5n13⟩) (by assumption) ?restr5n13
  case hyr5n13 => (intro w hSw; (try dsimp only at hSw); go_simp; all_goals (first | omega | assumption))
  simp only [Act.put, List.setIfInBounds_toArray, List.set_cons_zero, List.set_cons_succ]
  refine wpAnyH_take (i := 14) (oi := { dst := some 21, op := Op.pick (Operand.tmp 17) (Operand.const (Value.bool true)) (Operand.tmp 20), type := 4, pos := "ref.go:68", after := #[{ on := 10, ground := Ground.data }, { on := 13, ground := Ground.data }], guard := none }) (v := ?vvr5n14) rfl (by kernel_rfl) (by kernel_rfl) (by kernel_rfl) (fun _ _ _ h => h) (Or.inl ⟨by rfl, ?hyr5n14⟩) (by assumption) ?restr5n14
  case hyr5n14 => (intro w hSw; (try dsimp only at hSw); go_simp; try with_reducible rfl)
  simp only [Act.put, List.setIfInBounds_toArray, List.set_cons_zero, List.set_cons_succ]
  refine wpAnyH_take (i := 15) (oi := { dst := some 22, op := Op.move (Operand.tmp 21), type := 4, pos := "ref.go:68", after := #[{ on := 14, ground := Ground.data }, { on := 10, ground := Ground.chain }], guard := none }) (v := ?vvr5n15) rfl (by kernel_rfl) (by kernel_rfl) (by kernel_rfl) (fun _ _ _ h => h) (Or.inl ⟨by rfl, ?hyr5n15⟩) (by assumption) ?restr5n15
  case hyr5n15 => (intro w hSw; (try dsimp only at hSw); go_simp; try with_reducible rfl)
  simp only [Act.put, List.setIfInBounds_toArray, List.set_cons_zero, List.set_cons_succ]
  refine wpAnyH_take (i := 16) (oi := { dst := some 23, op := Op.fieldAddr 35 (Operand.tmp 3) 13, type := 0, pos := "ref.go:68", after := #[{ on := 15, ground := Ground.guard }], guard := some (15, false) }) (v := ?vvr5n16) rfl (by kernel_rfl) (by kernel_rfl) (by kernel_rfl) (fun _ _ _ h => h) (Or.inl ⟨by rfl, ?hyr5n16⟩) (by assumption) ?restr5n16
  case hyr5n16 => (intro w hSw; (try dsimp only at hSw); go_simp; try with_reducible rfl)
  simp only [Act.put, List.setIfInBounds_toArray, List.set_cons_zero, List.set_cons_succ]
  refine wpAnyH_take (i := 17) (oi := { dst := some 24, op := Op.load 5 (Operand.tmp 23), type := 5, pos := "ref.go:68", after := #[{ on := 16, ground := Ground.data }, { on := 15, ground := Ground.guard }], guard := some (15, false) }) (v := ?vvr5n17) rfl (by kernel_rfl) (by kernel_rfl) (by kernel_rfl) (fun _ _ _ h => h) (Or.inl ⟨by rfl, ?hyr5n17⟩) (by assumption) ?restr5n17
  case hyr5n17 => (intro w hSw; (try dsimp only at hSw); go_simp; try with_reducible rfl)
  simp only [Act.put, List.setIfInBounds_toArray, List.set_cons_zero, List.set_cons_succ]
  refine wpAnyH_take (i := 18) (oi := { dst := some 25, op := Op.binOp BinOp.gtr 5 (Operand.tmp 24) (Operand.const (Value.int IntKind.u8 3)) 5, type := 4, pos := "ref.go:68", after := #[{ on := 17, ground := Ground.data }, { on := 15, ground := Ground.guard }], guard := some (15, false) }) (v := Value.bool false) rfl (by kernel_rfl) (by kernel_rfl) (by kernel_rfl) (fun _ _ _ h => h) (Or.inl ⟨by rfl, ?hyr5n18⟩) (by assumption) ?restr5n18
  case hyr5n18 => (intro w hSw; (try dsimp only at hSw); go_simp; all_goals (first | omega | assumption))
  simp only [Act.put, List.setIfInBounds_toArray, List.set_cons_zero, List.set_cons_succ]
  refine wpAnyH_take (i := 19) (oi := { dst := some 26, op := Op.pick (Operand.tmp 22) (Operand.const (Value.bool true)) (Operand.tmp 25), type := 4, pos := "ref.go:68", after := #[{ on := 15, ground := Ground.data }, { on := 18, ground := Ground.data }], guard := none }) (v := ?vvr5n19) rfl (by kernel_rfl) (by kernel_rfl) (by kernel_rfl) (fun _ _ _ h => h) (Or.inl ⟨by rfl, ?hyr5n19⟩) (by assumption) ?restr5n19
  case hyr5n19 => (intro w hSw; (try dsimp only at hSw); go_simp; try with_reducible rfl)
  simp only [Act.put, List.setIfInBounds_toArray, List.set_cons_zero, List.set_cons_succ]
  refine wpAnyH_done (by kernel_rfl) ?_ _
  have oc := hHeld2.1
  replace hb := bThen hb hHeld2.2
  clear hHeld2 mO
  go_wp2_with (first
    | (go_at_call 89; first | ((with_reducible refine (H1 _).out.mono ?_); rintro e w5 ⟨rfl, rfl⟩) | ((with_reducible refine (H2 _).out.mono ?_); rintro e w5 ⟨rfl, rfl⟩) | ((with_reducible refine (H3 _).out.mono ?_); rintro e w5 ⟨rfl, rfl⟩))
    | (go_at_call 127; first | ((with_reducible refine (N1 _).out.mono ?_); rintro e w5 ⟨rfl, rfl⟩) | ((with_reducible refine (N2 _).out.mono ?_); rintro e w5 ⟨rfl, rfl⟩) | ((with_reducible refine (N3 _).out.mono ?_); rintro e w5 ⟨rfl, rfl⟩) | ((with_reducible refine (N4 _).out.mono ?_); rintro e w5 ⟨rfl, rfl⟩) | ((with_reducible refine (N5 _).out.mono ?_); rintro e w5 ⟨rfl, rfl⟩))
    | (go_at_call 126; first | ((with_reducible refine (R1 _).out.mono ?_); rintro e w5 ⟨rfl, rfl⟩) | (refine (R2 _).out.mono ?_; rintro e w5 ⟨rfl, rfl⟩)))
  all_goals
    go_ret
    all_goals refine ⟨?_, hb⟩
    all_goals show Ending.returned (Value.int IntKind.i64 _) = _
    all_goals rw [← HV.out]
    all_goals have hr1 := HR.out
    all_goals clear HV HR CW CT H1 H2 H3 N1 N2 N3 N4 N5 R1 R2 oc hb
    all_goals first | (simp [*]; done) | (congr 2; grind)
end Go.Proofs.YtncahpbjbgcnbaaGreatDoor
