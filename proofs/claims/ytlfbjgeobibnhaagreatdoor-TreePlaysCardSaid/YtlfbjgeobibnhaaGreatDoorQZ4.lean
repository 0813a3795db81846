/-
  WALKS: a nil tree, and one that nobody made.
-/
import Derived.Test.YtlfbjgeobibnhaaGreatDoorQZ3
import Derived.Laws.EntriesVeiled
import Derived.Test.YtlfbjgeobibnhaaGreatDoorQZ0
import Derived.BigQuiet
import Derived.Test.YtlfbjgeobibnhaaGreatDoorQZ2
import Derived.LaidEqlPtr
import Derived.Deep.CutRange
import Derived.BigRegion
namespace Go.Proofs.YtlfbjgeobibnhaaGreatDoor.TX
open Go.RowKit HL
open IX (ptr run_nil_some)
set_option maxRecDepth 100000
set_option linter.unusedVariables false
set_option linter.unusedSimpArgs false

/-- No tree, or one that nobody made. -/
def Unm (W : World) (v : Value) : Prop := v = .pointer none ∨ ∃ B, v = ptr B ∧ W.cell? ⟨B, 0, none⟩ = some (.pointer none) ∧ B < W.heap.size
theorem Unm.then {W W1 : World} {v : Value} (h : Unm W v) (k : Below W.heap.size W W1) : Unm W1 v := by
  rcases h with h | ⟨B, e, c, l⟩
  · exact .inl h
  · exact .inr ⟨B, e, by rw [k.cell (p := ⟨B, 0, none⟩) l]; exact c, Nat.lt_of_lt_of_le l k.size⟩
theorem Unm.form {W : World} {v : Value} (h : Unm W v) : ∃ p, v = .pointer p := by
  rcases h with h | ⟨B, e, _, _⟩
  · exact ⟨_, h⟩
  · exact ⟨_, e⟩
theorem made_no (v : Value) (w : World) (h : Unm w v) : Calls Tryz.prog 38 #[v] w fun e w' => e = .returned (.bool false) ∧ w = w' := by
  rcases h with rfl | ⟨B, rfl, c0, _⟩
  · go_enter Tryz.func38, Tryz.ntmps38
    go_wp2
    go_ret
    exact ⟨rfl, rfl⟩
  · have HE := fun W => run_nil_some (P := Tryz.prog) W (tp := 24) ⟨B, 0, none⟩ Tryz.underlying24
    go_enter Tryz.func38, Tryz.ntmps38
    go_wp2
    go_ret
    exact ⟨rfl, rfl⟩
theorem slot_no (v : Value) (h : ByteArray) (w : World) (hU : Unm w v) : Calls Tryz.prog 29 #[v, .string h] w fun e w' => e = .returned (.tuple #[.int .i64 0, .bool false]) ∧ w = w' := by
  have C := Lib.hid (made_no v w hU)
  clear hU
  go_enter Tryz.func29, Tryz.ntmps29
  go_wp2_with (go_at_call 38; ((with_reducible refine C.out.mono ?_); rintro e w1 ⟨rfl, rfl⟩))
  go_ret2
  exact ⟨rfl, rfl⟩
/-- An object and a bool handed back. -/
theorem ret_ob2 {fn : Func} {R : Ending → World → Prop} {act : Act} {W : World} {B : Nat} {o : Ob} {b : Bool} {p q : Tmp} (hr : fn.results = #[.cell p 33, .tmp q]) (hp : act.tmps.getD p undef = .pointer (some ⟨B, 0, none⟩)) (hq : act.tmps.getD q undef = .bool b) (hd : act.defers = [])
    (h : AtC W B (obCells o)) (hR : R (.returned (.tuple #[ob o, .bool b])) W) : bodyPost Tryz.prog fn R .ret act W := by
  refine bodyPost_ret (v := .tuple #[ob o, .bool b]) ?_ hd hR
  have h0 := h.c
  simp at hp hq
  simp only [results, hr]
  simp [Sem.run_bind, Result.andThen, hp, hq, go_sem, h0]
theorem at_no (v : Value) (h : ByteArray) (w : World) (hU : Unm w v) : Calls Tryz.prog 27 #[v, .string h] w fun e w' => e = .returned (.tuple #[ob zeroOb, .bool false]) ∧ Below w.heap.size w w' := by
  have C := Lib.hid (fun W q => slot_no v h W (hU.then q))
  have hb : Below w.heap.size w w := Below.refl _ _
  clear hU
  go_enter Tryz.func27, Tryz.ntmps27
  go_wp2_with (go_at_call 29; ((with_reducible refine (C.out _ (bAl hb _)).mono ?_); rintro e w1 ⟨rfl, rfl⟩))
  exact ret_ob2 (o := zeroOb) rfl rfl rfl rfl (AtC.new _ _ _) ⟨rfl, bAl hb _⟩
theorem seek_no (v : Value) (h : ByteArray) (w : World) (hU : Unm w v) : Calls Tryz.prog 51 #[v, .string h] w fun e w' => e = .returned (.tuple #[.int .i64 0, .int .i64 1]) ∧ w = w' := by
  have C := Lib.hid (slot_no v h w hU)
  have CM := Lib.hid (made_no v w hU)
  clear hU
  go_enter Tryz.func51, Tryz.ntmps51
  go_wp2_with (first
    | (go_at_call 29; ((with_reducible refine C.out.mono ?_); rintro e w1 ⟨rfl, rfl⟩))
    | (go_at_call 38; ((with_reducible refine CM.out.mono ?_); rintro e w1 ⟨rfl, rfl⟩)))
  go_ret2
  exact ⟨rfl, rfl⟩
theorem add_un (v : Value) (o : Ob) (w : World) (hU : Unm w v) : Calls Tryz.prog 21 #[v, ob o] w fun e w' => e = .returned (.int .i64 1) ∧ Below w.heap.size w w' := by
  have hb : Below w.heap.size w w := Below.refl _ _
  have C := Lib.hid (fun W q => slot_no v o.handle W (hU.then q))
  have CM := Lib.hid (fun W q => made_no v W (hU.then q))
  clear hU
  go_enter Tryz.func21, Tryz.ntmps21
  go_wp2_with (first
    | (go_at_call 29; ((with_reducible refine (C.out _ (bAl hb _)).mono ?_); rintro e w1 ⟨rfl, rfl⟩))
    | (go_at_call 38; ((with_reducible refine (CM.out _ (bAl hb _)).mono ?_); rintro e w1 ⟨rfl, rfl⟩)))
  go_ret
  exact ⟨rfl, bAl hb _⟩
theorem set_un (v : Value) (o : Ob) (w : World) (hU : Unm w v) : Calls Tryz.prog 23 #[v, ob o] w fun e w' => e = .returned (.int .i64 1) ∧ Below w.heap.size w w' := by
  have hb : Below w.heap.size w w := Below.refl _ _
  have C := Lib.hid (fun W q => seek_no v o.handle W (hU.then q))
  clear hU
  go_enter Tryz.func23, Tryz.ntmps23
  go_wp2_with (go_at_call 51; ((with_reducible refine (C.out _ (bAl hb _)).mono ?_); rintro e w1 ⟨rfl, rfl⟩))
  go_ret
  exact ⟨rfl, bAl hb _⟩
theorem remove_un (v : Value) (h : ByteArray) (w : World) (hU : Unm w v) : Calls Tryz.prog 25 #[v, .string h] w fun e w' => e = .returned (.int .i64 1) ∧ w = w' := by
  have C := Lib.hid (seek_no v h w hU)
  clear hU
  go_enter Tryz.func25, Tryz.ntmps25
  go_wp2_with (go_at_call 51; ((with_reducible refine C.out.mono ?_); rintro e w1 ⟨rfl, rfl⟩))
  go_ret
  exact ⟨rfl, rfl⟩
theorem many_no (v : Value) (w : World) (hU : Unm w v) : Calls Tryz.prog 31 #[v] w fun e w' => e = .returned (.int .i64 0) ∧ w = w' := by
  have C := Lib.hid (made_no v w hU)
  clear hU
  go_enter Tryz.func31, Tryz.ntmps31
  go_wp2_with (go_at_call 38; ((with_reducible refine C.out.mono ?_); rintro e w1 ⟨rfl, rfl⟩))
  go_ret
  exact ⟨rfl, rfl⟩
theorem slots_no (v : Value) (w : World) (hU : Unm w v) : Calls Tryz.prog 33 #[v] w fun e w' => e = .returned (.int .i64 0) ∧ w = w' := by
  have C := Lib.hid (made_no v w hU)
  clear hU
  go_enter Tryz.func33, Tryz.ntmps33
  go_wp2_with (go_at_call 38; ((with_reducible refine C.out.mono ?_); rintro e w1 ⟨rfl, rfl⟩))
  go_ret
  exact ⟨rfl, rfl⟩
theorem kids_no (v : Value) (h : ByteArray) (w : World) (hU : Unm w v) : Calls Tryz.prog 17 #[v, .string h] w fun e w' => e = .returned (.slice none 0 0) ∧ w = w' := by
  have C := Lib.hid (made_no v w hU)
  clear hU
  go_enter Tryz.func17, Tryz.ntmps17
  go_wp2_with (go_at_call 38; ((with_reducible refine C.out.mono ?_); rintro e w1 ⟨rfl, rfl⟩))
  go_ret
  exact ⟨rfl, rfl⟩
theorem copy_no (w : World) : Calls Tryz.prog 15 #[.pointer none] w fun e w' => e = .returned (.pointer none) ∧ w = w' := by
  go_enter Tryz.func15, Tryz.ntmps15
  go_wp2
  go_ret
  exact ⟨rfl, rfl⟩
theorem all_no (v : Value) (w : World) (hU : Unm w v) : Calls Tryz.prog 11 #[v] w fun e w' => e = .returned (.slice none 0 0) ∧ Below w.heap.size w w' := by
  have hb : Below w.heap.size w w := Below.refl _ _
  obtain ⟨p, rfl⟩ := hU.form
  have C := Lib.hid (fun W q => made_no (.pointer p) W (hU.then q))
  clear hU
  go_enter Tryz.func11, Tryz.ntmps11
  go_wp2_with (go_at_call 38; ((with_reducible refine (C.out _ (bAl hb _)).mono ?_); rintro e w1 ⟨rfl, rfl⟩))
  go_ret
  exact ⟨rfl, bAl hb _⟩
set_option maxHeartbeats 1000000 in
theorem above_no (v : Value) (h : ByteArray) (w : World) (hU : Unm w v) : Calls Tryz.prog 36 #[v, .string h] w fun e w' => e = .returned (.slice none 0 0) ∧ Below w.heap.size w w' := by
  have hb : Below w.heap.size w w := Below.refl _ _
  obtain ⟨p, rfl⟩ := hU.form
  have C := Lib.hid (fun W q => at_no (.pointer p) h W (hU.then q))
  have C2 := Lib.hid (fun W q => at_no (.pointer p) zeroOb.parent W (hU.then q))
  clear hU
  go_enter Tryz.func36, Tryz.ntmps36
  go_wp2_with (go_at_call 27; ((with_reducible refine (C.out _ hb).mono ?_); rintro e w1 ⟨rfl, k1⟩; replace hb := bThen hb k1))
  refine wp_loop_rounds 1 ?_
  rw [rounds_succ]
  go_wp2_with (go_at_call 27; ((with_reducible refine (C2.out _ (bAl hb _)).mono ?_); rintro e w2 ⟨rfl, k2⟩; replace hb := bThen (bAl hb _) k2))
  go_ret
  exact ⟨rfl, bAl hb _⟩
set_option maxHeartbeats 1000000 in
theorem walk_no (v : Value) (w : World) (hU : Unm w v) : Calls Tryz.prog 13 #[v] w fun e w' => e = .returned (.slice none 0 0) ∧ Below w.heap.size w w' := by
  have hb : Below w.heap.size w w := Below.refl _ _
  obtain ⟨p, rfl⟩ := hU.form
  have C := Lib.hid (fun W q => all_no (.pointer p) W (hU.then q))
  clear hU
  go_enter Tryz.func13, Tryz.ntmps13
  go_wp2_with (go_at_call 11; ((with_reducible refine (C.out _ (bAl (bAl (bAl hb _) _) _)).mono ?_); rintro e w1 ⟨rfl, k1⟩; have mL := (((AtC.new (w.alloc (.cells #[.pointer p] 24)) #[.slice none 0 0] 38).al _).then k1).c 0; simp at mL; have hb1 := bThen (bAl (bAl (bAl hb _) _) _) k1))
  refine wp_loop_rounds 1 ?_
  rw [rounds_succ]
  go_wp2
  go_ret
  exact ⟨rfl, hb1⟩
end Go.Proofs.YtlfbjgeobibnhaaGreatDoor.TX
/-
  PLAIN: a region that draws its order, whose own operations only read, and whose callees may make memory: one walk of the text's order, in the worlds that leave alone what is below.
-/
namespace Go.Proofs.YtlfbjgeobibnhaaGreatDoor.TX
open Go.RowKit
set_option maxRecDepth 100000
set_option linter.unusedVariables false
set_option linter.unusedSimpArgs false

/-- A world that leaves alone what w has. -/
structure Ext (w : World) where
  W : World
  b : Below w.heap.size w W
instance (w : World) : Nonempty (Ext w) := ⟨⟨w, Below.refl _ _⟩⟩
theorem Ext.same {w : World} : ∃ x : Ext w, w = x.W := ⟨⟨w, Below.refl _ _⟩, rfl⟩
theorem Ext.drewn {w : World} : ∃ x : Ext w, w.drew = x.W := ⟨⟨w.drew, (Below.refl _ _).drew⟩, rfl⟩
theorem wp_region_ext {P : Program} {id : Nat} {Q : Exit → Act → World → Prop} {a : Act} {w : World} {l : List Oper} (hm : P.follows .mixedOrders = true) (hB : Region.lexB .any l.toArray = true)
    (h : wpQuiet P l.toArray (fun W => ∃ x : Ext w, W = x.W) (fun a' => ∀ w', (∃ x : Ext w, w' = x.W) → Q .normal a' w') l a) : (Code.region id l.toArray true).wp P Q a w :=
  wp_region_quiet (C := fun W => ∃ x : Ext w, W = x.W) hm hB Ext.drewn (by simpa using h)
theorem ext_same {P : Program} {f : FuncId} {args : Array Value} {w : World} {x : Ext w} {v : Value} (h : Calls P f args x.W fun e w' => e = .returned v ∧ x.W = w') : Calls P f args x.W fun e w' => e = .returned v ∧ ∃ y : Ext w, w' = y.W :=
  h.mono fun _ _ ⟨he, hw⟩ => ⟨he, x, hw.symm⟩
theorem ext_below {P : Program} {f : FuncId} {args : Array Value} {w : World} {x : Ext w} {v : Value} (h : Calls P f args x.W fun e w' => e = .returned v ∧ Below x.W.heap.size x.W w') : Calls P f args x.W fun e w' => e = .returned v ∧ ∃ y : Ext w, w' = y.W :=
  h.mono fun _ _ ⟨he, hw⟩ => ⟨he, ⟨_, bThen x.b hw⟩, rfl⟩
/-- A piece of a body, by its way (path.py): 0 a sequence's left, 1 its right, 2 a block's, 3 a loop's, 4 an if's yes, 5 its no. -/
def pathC : List Nat → Code → Code
  | 0 :: l, .seq a _ => pathC l a
  | 1 :: l, .seq _ b => pathC l b
  | 2 :: l, .block _ c => pathC l c
  | 3 :: l, .loop c => pathC l c
  | 4 :: l, .cond _ a _ => pathC l a
  | 5 :: l, .cond _ _ b => pathC l b
  | _, c => c
def bodyC (f : Func) (l : List Nat) : Code := match f.body with | some c => pathC l c | none => .skip
end Go.Proofs.YtlfbjgeobibnhaaGreatDoor.TX
/-
  WALKS: made, Slot, Many, Slots, At, seek of a tree.
-/
namespace Go.Proofs.YtlfbjgeobibnhaaGreatDoor.TX
open Go.RowKit HL
open IX (ptr El cellsK OwnK IxAt Rw hasB numOf)
set_option maxRecDepth 100000
set_option linter.unusedVariables false
set_option linter.unusedSimpArgs false

/-- A tree in memory, whole. -/
structure Tree (w : World) (b0 : Nat) (L : Lay) (s : Sl) : Prop where
  t : TrAt w b0 L (s.map Option.isSome) (rowsOf s none) s (fun p => rowsOf s (some p))
  wf : Wf s
theorem Tree.then {w w' : World} {b0 : Nat} {L : Lay} {s : Sl} (h : Tree w b0 L s) (k : Below w.heap.size w w') : Tree w' b0 L s := ⟨h.t.then k, h.wf⟩
theorem Tree.kept {w w' : World} {b0 : Nat} {L : Lay} {s : Sl} {P : Nat → Prop} (h : Tree w b0 L s) (k : IX.Kept w w' P) (hp : ∀ j, j < w.heap.size → L.g j ≠ .other → P j) : Tree w' b0 L s := ⟨h.t.kept k hp, h.wf⟩
theorem Tree.ln {w : World} {b0 : Nat} {L : Lay} {s : Sl} (h : Tree w b0 L s) : s.length ≤ 64 := h.wf.ln
theorem Tree.pl {w : World} {b0 : Nat} {L : Lay} {s : Sl} (h : Tree w b0 L s) (o : Option Bs) : (rowsOf s o).length ≤ 64 := Nat.le_trans (rowsOf_len s o) h.wf.ln
theorem slot_cells0 {w : World} {L : Lay} {s : Sl} (h : AtC w L.T (trC L s)) {k : Nat} (hk : k < 64) {o : Ob} (e : obOf (s.getD k none) = o) :
    w.cell? ⟨L.T, 4 + k * 14, none⟩ = some (.string o.handle) ∧ w.cell? ⟨L.T, 4 + k * 14 + 1, none⟩ = some (.int .u8 o.kind) ∧ w.cell? ⟨L.T, 4 + k * 14 + 2, none⟩ = some (.string o.parent) ∧ w.cell? ⟨L.T, 4 + k * 14 + 3, none⟩ = some (.int .u8 o.typ) ∧ w.cell? ⟨L.T, 4 + k * 14 + 4, none⟩ = some (.string o.ref) ∧ w.cell? ⟨L.T, 4 + k * 14 + 5, none⟩ = some (.int .i64 o.lo) ∧ w.cell? ⟨L.T, 4 + k * 14 + 6, none⟩ = some (.int .i64 o.hi) ∧ w.cell? ⟨L.T, 4 + k * 14 + 7, none⟩ = some (.int .u8 o.digits) ∧ w.cell? ⟨L.T, 4 + k * 14 + 8, none⟩ = some (.bool o.on) ∧ w.cell? ⟨L.T, 4 + k * 14 + 9, none⟩ = some (.bool o.has) ∧ w.cell? ⟨L.T, 4 + k * 14 + 10, none⟩ = some (.int .i64 o.value) ∧ w.cell? ⟨L.T, 4 + k * 14 + 11, none⟩ = some (.int .i64 o.low) ∧ w.cell? ⟨L.T, 4 + k * 14 + 12, none⟩ = some (.int .i64 o.high) ∧ w.cell? ⟨L.T, 4 + k * 14 + 13, none⟩ = some (.int .u8 o.assoc) := by
  have q : ∀ i, i < 14 → w.cell? ⟨L.T, 4 + k * 14 + i, none⟩ = (obCells o)[i]? := fun i hi => by rw [h.c, trC_ob L s hk hi, e]
  exact ⟨q 0 (by decide), q 1 (by decide), q 2 (by decide), q 3 (by decide), q 4 (by decide), q 5 (by decide), q 6 (by decide), q 7 (by decide), q 8 (by decide), q 9 (by decide), q 10 (by decide), q 11 (by decide), q 12 (by decide), q 13 (by decide)⟩
theorem slot_cells {w : World} {L : Lay} {s : Sl} (h : AtC w L.T (trC L s)) {k : Nat} (hk : k < 64) {o : Ob} (ho : In s k o) :
    w.cell? ⟨L.T, 4 + k * 14, none⟩ = some (.string o.handle) ∧ w.cell? ⟨L.T, 4 + k * 14 + 1, none⟩ = some (.int .u8 o.kind) ∧ w.cell? ⟨L.T, 4 + k * 14 + 2, none⟩ = some (.string o.parent) ∧ w.cell? ⟨L.T, 4 + k * 14 + 3, none⟩ = some (.int .u8 o.typ) ∧ w.cell? ⟨L.T, 4 + k * 14 + 4, none⟩ = some (.string o.ref) ∧ w.cell? ⟨L.T, 4 + k * 14 + 5, none⟩ = some (.int .i64 o.lo) ∧ w.cell? ⟨L.T, 4 + k * 14 + 6, none⟩ = some (.int .i64 o.hi) ∧ w.cell? ⟨L.T, 4 + k * 14 + 7, none⟩ = some (.int .u8 o.digits) ∧ w.cell? ⟨L.T, 4 + k * 14 + 8, none⟩ = some (.bool o.on) ∧ w.cell? ⟨L.T, 4 + k * 14 + 9, none⟩ = some (.bool o.has) ∧ w.cell? ⟨L.T, 4 + k * 14 + 10, none⟩ = some (.int .i64 o.value) ∧ w.cell? ⟨L.T, 4 + k * 14 + 11, none⟩ = some (.int .i64 o.low) ∧ w.cell? ⟨L.T, 4 + k * 14 + 12, none⟩ = some (.int .i64 o.high) ∧ w.cell? ⟨L.T, 4 + k * 14 + 13, none⟩ = some (.int .u8 o.assoc) :=
  slot_cells0 h hk (by rw [List.getD_eq_getElem?_getD, ho]; rfl)
theorem tree_info : Tryz.prog.info? 55 = some (Tryz.prog.info? 55).get! := by kernel_rfl
theorem made_any {w : World} {L : Lay} {s : Sl} (h : AtC w L.T (trC L s)) : Calls Tryz.prog 38 #[ptr L.T] w fun e w' => e = .returned (.bool true) ∧ w = w' := by
  have c0 := (h.c 0).trans (trC_0 L s)
  have HE := fun W => run_eql_ptr_same (P := Tryz.prog) W (tp := 24) ⟨L.T, 0, none⟩ Tryz.underlying24 tree_info
  clear h
  go_enter Tryz.func38, Tryz.ntmps38
  go_wp2
  go_ret
  exact ⟨rfl, rfl⟩
section
variable {w : World} {b0 : Nat} {L : Lay} {tk : List Bool} {lp : List Rw} {s : Sl} {r : Bs → List Rw}
theorem TrAt.c1 (h : TrAt w b0 L tk lp s r) : w.cell? ⟨L.T, 1, none⟩ = some (ptr L.A) := (h.c.c 1).trans (trC_1 L s)
theorem TrAt.c2 (h : TrAt w b0 L tk lp s r) : w.cell? ⟨L.T, 2, none⟩ = some (ptr L.P) := (h.c.c 2).trans (trC_2 L s)
theorem TrAt.c3 (h : TrAt w b0 L tk lp s r) : w.cell? ⟨L.T, 3, none⟩ = some (.map (some L.M)) := (h.c.c 3).trans (trC_3 L s)
theorem slot_tr (h : TrAt w b0 L tk lp s r) (hn : lp.length ≤ 1000000) (x : ByteArray) :
    Calls Tryz.prog 29 #[ptr L.T, .string x] w fun e w' => e = .returned (.tuple #[.int .i64 (numOf lp x.data.toList), .bool (hasB lp x.data.toList)]) ∧ Below w.heap.size w w' := by
  have CM := Lib.hid (made_any h.c)
  have CF : Hid (Calls Tryz.prog 55 #[ptr L.P, .string x] w fun e w' => e = .returned (.tuple #[.int .i64 (numOf lp x.data.toList), .bool (hasB lp x.data.toList)]) ∧ Below w.heap.size w w') := Lib.hid (IX.find_any L.P L.vP lp x.data.toList w h.p hn)
  have c2 := h.c2
  clear h
  generalize numOf lp x.data.toList = a at *
  generalize hasB lp x.data.toList = b at *
  go_enter Tryz.func29, Tryz.ntmps29
  go_wp2_with (first
    | (go_at_call 38; ((with_reducible refine CM.out.mono ?_); rintro e w1 ⟨rfl, rfl⟩))
    | (go_at_call 55; ((with_reducible refine CF.out.mono ?_); rintro e w1 ⟨rfl, k1⟩)))
  go_ret2
  exact ⟨rfl, k1⟩
theorem many_tr (h : TrAt w b0 L tk lp s r) : Calls Tryz.prog 31 #[ptr L.T] w fun e w' => e = .returned (.int .i64 lp.length) ∧ w = w' := by
  have CM := Lib.hid (made_any h.c)
  have CF := Lib.hid (IX.many_any L.P L.vP lp w h.p)
  have c2 := h.c2
  clear h
  go_enter Tryz.func31, Tryz.ntmps31
  go_wp2_with (first
    | (go_at_call 38; ((with_reducible refine CM.out.mono ?_); rintro e w1 ⟨rfl, rfl⟩))
    | (go_at_call 56; ((with_reducible refine CF.out.mono ?_); rintro e w1 ⟨rfl, rfl⟩)))
  go_ret
  exact ⟨rfl, rfl⟩
theorem slots_tr (h : TrAt w b0 L tk lp s r) : Calls Tryz.prog 33 #[ptr L.T] w fun e w' => e = .returned (.int .i64 tk.length) ∧ w = w' := by
  have CM := Lib.hid (made_any h.c)
  have CF : Hid (Calls Tryz.prog 58 #[ptr L.A] w fun e w' => e = .returned (.int .i64 tk.length) ∧ w = w') := Lib.hid (size_any L.A ⟨tk, L.ag⟩ w h.a)
  have c1 := h.c1
  clear h
  go_enter Tryz.func33, Tryz.ntmps33
  go_wp2_with (first
    | (go_at_call 38; ((with_reducible refine CM.out.mono ?_); rintro e w1 ⟨rfl, rfl⟩))
    | (go_at_call 58; ((with_reducible refine CF.out.mono ?_); rintro e w1 ⟨rfl, rfl⟩)))
  go_ret
  exact ⟨rfl, rfl⟩
theorem seek_tr (h : TrAt w b0 L tk lp s r) (hn : lp.length ≤ 1000000) (x : ByteArray) :
    Calls Tryz.prog 51 #[ptr L.T, .string x] w fun e w' => e = .returned (.tuple #[.int .i64 (if hasB lp x.data.toList = true then numOf lp x.data.toList else 0), .int .i64 (if hasB lp x.data.toList = true then 0 else 70)]) ∧ Below w.heap.size w w' := by
  have CM := Lib.hid (fun W (q : Below w.heap.size w W) => made_any (h.then q).c)
  have CF := Lib.hid (slot_tr h hn x)
  have hb : Below w.heap.size w w := Below.refl _ _
  clear h
  generalize numOf lp x.data.toList = a at *
  cases e : hasB lp x.data.toList with
  | false =>
    rw [e] at CF
    clear e
    go_enter Tryz.func51, Tryz.ntmps51
    go_wp2_with (first
      | (go_at_call 38; ((with_reducible refine (CM.out _ hb).mono ?_); rintro e w1 ⟨rfl, rfl⟩))
      | (go_at_call 29; ((with_reducible refine CF.out.mono ?_); rintro e w1 ⟨rfl, k1⟩; replace hb := bThen hb k1)))
    go_ret2
    exact ⟨rfl, hb⟩
  | true =>
    rw [e] at CF
    clear e
    go_enter Tryz.func51, Tryz.ntmps51
    go_wp2_with (first
      | (go_at_call 38; ((with_reducible refine (CM.out _ hb).mono ?_); rintro e w1 ⟨rfl, rfl⟩))
      | (go_at_call 29; ((with_reducible refine CF.out.mono ?_); rintro e w1 ⟨rfl, k1⟩; replace hb := bThen hb k1)))
    go_ret2
    exact ⟨rfl, hb⟩
end
section
variable {w : World} {b0 : Nat} {L : Lay} {s : Sl}
theorem slot_any (h : Tree w b0 L s) (x : ByteArray) : Calls Tryz.prog 29 #[ptr L.T, .string x] w fun e w' => e = .returned (.tuple #[.int .i64 (slotN s x.data.toList : Int), .bool (there s x.data.toList)]) ∧ Below w.heap.size w w' := by
  have q := slot_tr h.t (Nat.le_trans (h.pl none) (by decide)) x
  rw [num_rows h.wf, has_rows h.wf] at q
  exact q
set_option maxHeartbeats 1000000 in
theorem at_any (h : Tree w b0 L s) (x : ByteArray) : Calls Tryz.prog 27 #[ptr L.T, .string x] w fun e w' => e = .returned (.tuple #[ob (obAt s x.data.toList), .bool (there s x.data.toList)]) ∧ Below w.heap.size w w' := by
  have hb : Below w.heap.size w w := Below.refl _ _
  have CF := Lib.hid (fun W (q : Below w.heap.size w W) => slot_any (h.then q) x)
  have HT := Lib.hid (fun W (q : Below w.heap.size w W) => (h.then q).t)
  cases e : there s x.data.toList with
  | false =>
    obtain ⟨e1, e2⟩ := slotN_f e
    rw [e, e1] at CF
    rw [e2]
    clear e e1 e2 h HT
    go_enter Tryz.func27, Tryz.ntmps27
    go_wp2_with (go_at_call 29; ((with_reducible refine (CF.out _ (bAl hb _)).mono ?_); rintro e w1 ⟨rfl, k1⟩; have mR := (AtC.new w _ _).then k1; have rc := mR.c; have rf := mR.f; have rl := mR.lt; have MR := Lib.hid mR; clear mR; replace hb := bThen (bAl hb _) k1))
    exact ret_ob2 (o := zeroOb) rfl rfl rfl rfl (AtC.fill MR.out rfl _ _ _ _ _ _ _ _ _ _ _ _ _ _) ⟨rfl, bFill hb (Nat.le_refl _) _ _ _ _ _ _ _ _ _ _ _ _ _ _⟩
  | true =>
    obtain ⟨o, h1, h2, h3, h4⟩ := there_t e
    have hk : slotN s x.data.toList < 64 := Nat.lt_of_lt_of_le h1.lt h.ln
    rw [e] at CF
    rw [h3]
    have HO := Lib.hid h1
    clear e h h1 h2 h3 h4
    generalize slotN s x.data.toList = k at *
    have hk2 : (k : Int) < 64 := by omega
    go_enter Tryz.func27, Tryz.ntmps27
    go_wp2_with (go_at_call 29; ((with_reducible refine (CF.out _ (bAl hb _)).mono ?_); rintro e w1 ⟨rfl, k1⟩; have mR := (AtC.new w _ _).then k1; have rc := mR.c; have rf := mR.f; have rl := mR.lt; have MR := Lib.hid mR; clear mR; replace hb := bThen (bAl hb _) k1; obtain ⟨c0, c1, c2, c3, c4, c5, c6, c7, c8, c9, c10, c11, c12, c13⟩ := slot_cells (HT.out _ hb).c hk HO.out))
    exact ret_ob2 (o := o) rfl rfl rfl rfl (AtC.fill MR.out rfl _ _ _ _ _ _ _ _ _ _ _ _ _ _) ⟨rfl, bFill hb (Nat.le_refl _) _ _ _ _ _ _ _ _ _ _ _ _ _ _⟩
end
end Go.Proofs.YtlfbjgeobibnhaaGreatDoor.TX
/-
  WALKS: settle, unsettle of a tree.
-/
namespace Go.Proofs.YtlfbjgeobibnhaaGreatDoor.TX
open Go.RowKit HL
open IX (ptr El cellsK OwnK IxAt Rw hasB numOf mayS putL putE ins del takeL)
set_option maxRecDepth 100000
set_option linter.unusedVariables false
set_option linter.unusedSimpArgs false

theorem put_kid {W : World} {B : Nat} {v : Value} {l : List Rw} (hA : IxAt W B v l) (hl : l.length ≤ 1000) (o : Ob) (k : Nat) (hm : mayS (hb o) = true) (hno : hasB l (hb o) = false) :
    Calls Tryz.prog 48 #[ptr B, .string o.handle, .int .i64 k] W fun e w' => ∃ v', e = .returned (.int .i64 0) ∧ IxAt w' B v' (ins l (hb o) k) ∧ (∀ j, v'.ownBlock = some j → v.ownBlock = some j ∨ W.heap.size ≤ j) ∧ IX.Kept W w' (fun j => j ≠ B ∧ v.ownBlock ≠ some j) := by
  have q := IX.put_any B v l (hb o) (k : Int) W hA (Nat.le_trans hl (by decide)) (Nat.le_trans (IX.mayS_len hm) (by unfold maxLen; decide))
  obtain ⟨e1, e2⟩ := IX.put_yes (l := l) (n := (k : Int)) hm (by omega) hno
  rw [e1, e2] at q
  exact q
theorem take_kid {W : World} {B : Nat} {v : Value} {l : List Rw} (hA : IxAt W B v l) (hl : l.length ≤ 1000) (o : Ob) (hh : hasB l (hb o) = true) :
    Calls Tryz.prog 53 #[ptr B, .string o.handle] W fun e w' => ∃ v', e = .returned (.tuple #[.int .i64 (numOf l (hb o)), .int .i64 0]) ∧ IxAt w' B v' (del l (hb o)) ∧ (∀ j, v'.ownBlock = some j → v.ownBlock = some j ∨ W.heap.size ≤ j) ∧ IX.Kept W w' (fun j => j ≠ B ∧ v.ownBlock ≠ some j) := by
  have q := IX.take_any B v l (hb o) W hA (Nat.le_trans hl (by decide))
  have e1 : IX.takeE l (hb o) = 0 := by simp [IX.takeE, hh]
  have e2 : takeL l (hb o) = del l (hb o) := by simp [takeL, hh]
  rw [e1, e2] at q
  exact q
section
variable {w : World} {b0 : Nat} {L : Lay} {tk : List Bool} {lp : List Rw} {s : Sl} {r : Bs → List Rw}
theorem TrAt.k64 (h : TrAt w b0 L tk lp s r) {k : Nat} (hk : k < s.length) : k < 64 := by
  have h1 : tk.length ≤ 64 := h.ok.le
  have := h.ln
  omega
theorem TrAt.inW (h : TrAt w b0 L tk lp s r) : L.T < w.heap.size := h.c.lt
set_option maxHeartbeats 4000000 in
theorem settle_tr (h : TrAt w b0 L tk lp s r) (hb0 : b0 ≤ w.heap.size) {k : Nat} (hk : k < s.length) (o : Ob) (hm : mayS (hb o) = true) (hp : (pb o).length ≤ maxLen) (hno : hasB (r (pb o)) (hb o) = false) (hl : (r (pb o)).length ≤ 1000) (hn : L.n ≤ 1000000) :
    Calls Tryz.prog 49 #[ptr L.T, ob o, .int .i64 k] w fun e w' => e = .returned (.tuple #[]) ∧ ∃ L', TrAt w' b0 L' tk lp (s.set k (some o)) (upd r (pb o) (ins (r (pb o)) (hb o) k)) ∧ Step w w' 1 L L' := by
  have hk64 := h.k64 hk
  have hk2 : (k : Int) < 64 := by omega
  have hTl := h.c.lt
  have hA0 := h.then (bAl (Below.refl _ _) (.cells (obCells o) 33))
  obtain ⟨z, hz⟩ : ∃ z, obOf (s.getD k none) = z := ⟨_, rfl⟩
  obtain ⟨c0, c1, c2, c3, c4, c5, c6, c7, c8, c9, c10, c11, c12, c13⟩ := slot_cells0 hA0.c hk64 hz
  have f0 := hA0.c.f
  have m0 := AtC.new w (obCells o) 33
  have HW : Hid (TrAt (put14 (w.alloc (.cells (obCells o) 33)) L.T (4 + k * 14) o) b0 L tk lp (s.set k (some o)) r ∧ AtC (put14 (w.alloc (.cells (obCells o) 33)) L.T (4 + k * 14) o) w.heap.size (obCells o) ∧ IX.Kept w (put14 (w.alloc (.cells (obCells o) 33)) L.T (4 + k * 14) o) (fun j => L.g j = .other)) := Lib.hid ⟨hA0.obj (put14_slot hA0.c hk64 hk (some o)) (put14_kept (.refl _ _) (fun _ q => q rfl)) (by rw [List.length_set]), put14_far m0 (by omega), put14_kept ((IX.Kept.refl w _).alloc _) (fun _ e => by rw [h.gT] at e; cases e)⟩
  have HB : Hid (L.g w.heap.size = .other) := Lib.hid (by
    cases q : L.g w.heap.size with
    | other => rfl
    | _ => have := (h.lt w.heap.size (by rw [q]; simp)).2; omega)
  clear h hA0 hz hTl
  go_enter Tryz.func49, Tryz.ntmps49
  go_wp2_with fail
  go_upto_region 1 with (fail)
  go_cut [4] from 8 to 38 (fun s4 W => s4 = ptr w.heap.size ∧ AtC W w.heap.size (obCells o) ∧ TrAt W b0 L tk lp (s.set k (some o)) r ∧ IX.Kept w W (fun j => L.g j = .other))
  case first =>
    go_region
    all_goals (go_wp2_with fail; go_meet; case rel => exact ⟨rfl, HW.out.2.1.drew1, HW.out.1.then (Below.refl _ _).drew, HW.out.2.2.then (Below.refl _ _).drew⟩)
  case rest =>
    obtain ⟨rfl, mO, hT, hK⟩ := hcut
    clear HW m0 f0 c0 c1 c2 c3 c4 c5 c6 c7 c8 c9 c10 c11 c12 c13
    have c3 := hT.c3
    have oc := mO.c
    have HT := Lib.hid hT
    have HK := Lib.hid hK
    have HO := Lib.hid mO
    have HS : Hid (Step w wc 0 L L) := Lib.hid ⟨hK, rfl, Nat.le_refl _, fun j e => .inl e⟩
    cases hf : L.f (pb o) with
    | some B =>
      have hlk : ∀ n, (Instr.lookup 52 (.map (some L.M)) (.string o.parent) true).run Tryz.prog (wc.drewN n) = .ok (.tuple #[ptr B, .bool true]) (wc.drewN n) := fun n => by
        have q := (hT.then ((Below.refl _ _).trans ⟨rfl, rfl, rfl, Nat.le_refl _, fun _ _ => rfl⟩ : Below wc.heap.size wc (wc.drewN n))).m.look_ok hp
        rw [hf] at q
        exact q
      have HF := Lib.hid hf
      clear hT hK mO hf
      go_wp2
      go_quiet (fail)
      have CP := Lib.hid (fun W (q : Below wc.heap.size wc W) => put_kid ((HT.out.then q).k _ _ HF.out).1 hl o k hm hno)
      have hbn : Below wc.heap.size wc (wc.drewN nq) := (Below.refl _ _).trans ⟨rfl, rfl, rfl, Nat.le_refl _, fun _ _ => rfl⟩
      go_wp2_with (go_at_call 48; ((with_reducible refine (CP.out _ hbn).mono ?_); rintro e w3 ⟨v', rfl, i3, f3, k3⟩))
      go_end0
      have t3 := HT.out.then hbn
      exact ⟨rfl, _, t3.kid HF.out i3 f3 k3 (Nat.le_trans hb0 HK.out.size), (HS.out.trans ((Step.of_below hbn).trans (t3.kid_step HF.out f3 k3))).more (by omega)⟩
    | none =>
      have hlk : ∀ n, (Instr.lookup 52 (.map (some L.M)) (.string o.parent) true).run Tryz.prog (wc.drewN n) = .ok (.tuple #[.pointer none, .bool false]) (wc.drewN n) := fun n => by
        have q := (hT.then ((Below.refl _ _).trans ⟨rfl, rfl, rfl, Nat.le_refl _, fun _ _ => rfl⟩ : Below wc.heap.size wc (wc.drewN n))).m.look_ok hp
        rw [hf] at q
        exact q
      have HF := Lib.hid hf
      clear hT hK mO hf
      go_wp2
      go_quiet (fail)
      have CN := Lib.hid IX.new_any
      have hbn : Below wc.heap.size wc (wc.drewN nq) := (Below.refl _ _).trans ⟨rfl, rfl, rfl, Nat.le_refl _, fun _ _ => rfl⟩
      clear hlk
      go_wp2_with (go_at_call 20; ((with_reducible refine (CN.out _).mono ?_); rintro e w2 ⟨rfl, i2, k2⟩; have hb2 := bThen hbn k2; have I2 := Lib.hid i2; have c3' := (HT.out.then hb2).c3; have oc' := (HO.out.then hb2).c; clear i2 c3 oc; have hm2 := (HT.out.then (hb2.drew)).m; obtain ⟨w3, hrun, m3, k3⟩ := hm2.put hn hp wc.heap.size; clear hm2; have M3 := Lib.hid m3; have K3 := Lib.hid k3; clear m3 k3; have hrun : (Instr.mapUpdate 52 (.map (some L.M)) (.string o.parent) (ptr wc.heap.size)).run Tryz.prog w2.drew = .ok () w3 := hrun))
      go_region
      have n2 : wc.heap.size ≤ w2.heap.size := hb2.size
      have t2 := HT.out.then hb2.drew
      have hlo : L.g wc.heap.size = .other := by
        cases q : L.g wc.heap.size with
        | other => rfl
        | _ => have := (HT.out.lt wc.heap.size (by rw [q]; simp)).2; omega
      have i2 : IxAt w2.drew wc.heap.size (.slice none 0 0) [] := I2.out.then (Below.refl _ _).drew
      have hne : wc.heap.size ≠ L.M := fun e => by rw [e, HT.out.gM] at hlo; cases hlo
      have i3 : IxAt w3 wc.heap.size (.slice none 0 0) [] := i2.kept K3.out hne (fun b e => by simp [Value.ownBlock] at e)
      have hb0c := Nat.le_trans hb0 HK.out.size
      have t3 := t2.enter HF.out hlo hb0c i3 rfl M3.out K3.out
      have s3 := HT.out.enter_step (x := pb o) (v' := .slice none 0 0) hb2.drew (Nat.le_refl _ : wc.heap.size ≤ wc.heap.size) K3.out
      have hf3 : upd L.f (pb o) (some wc.heap.size) (pb o) = some wc.heap.size := upd_same _ _ _
      have q3 := (t3.k _ _ hf3).1
      have CP := Lib.hid (put_kid q3 hl o k hm hno)
      have oc3 : ∀ i, w3.cell? ⟨w.heap.size, i, none⟩ = (obCells o)[i]? := (K3.out.atC (HO.out.then hb2.drew) (fun e => by
        have := HB.out
        rw [e, HT.out.gM] at this; cases this)).c
      have T3 := Lib.hid t3
      have S3 := Lib.hid s3
      have HF3 := Lib.hid hf3
      have hb03 := Nat.le_trans hb0c (Nat.le_trans hb2.size K3.out.size)
      clear t3 s3 hf3 q3 i3 i2 t2 oc' c3' hrun
      go_wp2_with (go_at_call 48; ((with_reducible refine CP.out.mono ?_); rintro e w4 ⟨v', rfl, i4, f4, k4⟩))
      go_end0
      exact ⟨rfl, _, T3.out.kid HF3.out i4 f4 k4 hb03, ((HS.out.trans S3.out).trans (T3.out.kid_step HF3.out f4 k4)).more (by omega)⟩
set_option maxHeartbeats 4000000 in
theorem unsettle_tr (h : TrAt w b0 L tk lp s r) (hb0 : b0 ≤ w.heap.size) {k : Nat} {o : Ob} (ho : In s k o) (hp : (pb o).length ≤ maxLen) (hh : hasB (r (pb o)) (hb o) = true) (hl : (r (pb o)).length ≤ 1000) :
    Calls Tryz.prog 52 #[ptr L.T, .int .i64 k] w fun e w' => e = .returned (.tuple #[]) ∧ ∃ L', TrAt w' b0 L' tk lp (s.set k none) (upd r (pb o) (del (r (pb o)) (hb o))) ∧ Step w w' 0 L L' := by
  have hk64 := h.k64 ho.lt
  have hk2 : (k : Int) < 64 := by omega
  have hTl := h.c.lt
  have hA0 := h.then (bAl (Below.refl _ _) (.cells (obCells o) 33))
  obtain ⟨c0, c1, c2, c3, c4, c5, c6, c7, c8, c9, c10, c11, c12, c13⟩ := slot_cells h.c hk64 ho
  obtain ⟨d0, d1, d2, d3, d4, d5, d6, d7, d8, d9, d10, d11, d12, d13⟩ := slot_cells hA0.c hk64 ho
  have f0 := hA0.c.f
  have m0 := AtC.new w (obCells o) 33
  have HW : Hid (TrAt (put14 (w.alloc (.cells (obCells o) 33)) L.T (4 + k * 14) zeroOb) b0 L tk lp (s.set k none) r ∧ AtC (put14 (w.alloc (.cells (obCells o) 33)) L.T (4 + k * 14) zeroOb) w.heap.size (obCells o) ∧ IX.Kept w (put14 (w.alloc (.cells (obCells o) 33)) L.T (4 + k * 14) zeroOb) (fun j => L.g j = .other)) := Lib.hid ⟨hA0.obj (put14_slot hA0.c hk64 ho.lt none) (put14_kept (.refl _ _) (fun _ q => q rfl)) (by rw [List.length_set]), put14_far m0 (by omega), put14_kept ((IX.Kept.refl w _).alloc _) (fun _ e => by rw [h.gT] at e; cases e)⟩
  have HB : Hid (L.g w.heap.size = .other) := Lib.hid (by
    cases q : L.g w.heap.size with
    | other => rfl
    | _ => have := (h.lt w.heap.size (by rw [q]; simp)).2; omega)
  obtain ⟨B, hf⟩ : ∃ B, L.f (pb o) = some B := by
    cases q : L.f (pb o) with
    | some B => exact ⟨B, rfl⟩
    | none => rw [h.z _ q] at hh; simp [hasB, IX.keys] at hh
  clear h hA0 hTl
  go_enter Tryz.func52, Tryz.ntmps52
  go_upto_region 1 with (fail)
  go_cut [4] from 6 to 37 (fun s4 W => s4 = ptr w.heap.size ∧ AtC W w.heap.size (obCells o) ∧ TrAt W b0 L tk lp (s.set k none) r ∧ IX.Kept w W (fun j => L.g j = .other))
  case first =>
    go_wp2_with fail
    go_meet
    case rel => exact ⟨rfl, HW.out.2.1, HW.out.1, HW.out.2.2⟩
  case rest =>
    obtain ⟨rfl, mO, hT, hK⟩ := hcut
    clear HW m0 f0 c0 c1 c2 c3 c4 c5 c6 c7 c8 c9 c10 c11 c12 c13 d0 d1 d2 d3 d4 d5 d6 d7 d8 d9 d10 d11 d12 d13
    have c3 := hT.c3
    have oc := mO.c
    have HT := Lib.hid hT
    have HK := Lib.hid hK
    have HO := Lib.hid mO
    have HS : Hid (Step w wc 0 L L) := Lib.hid ⟨hK, rfl, Nat.le_refl _, fun j e => .inl e⟩
    have hlk : ∀ n, (Instr.lookup 52 (.map (some L.M)) (.string o.parent) false).run Tryz.prog (wc.drewN n) = .ok (ptr B) (wc.drewN n) := fun n => by
      have q := (hT.then ((Below.refl _ _).trans ⟨rfl, rfl, rfl, Nat.le_refl _, fun _ _ => rfl⟩ : Below wc.heap.size wc (wc.drewN n))).m.look hp
      rw [hf] at q
      exact q
    have HF := Lib.hid hf
    clear hT hK mO hf
    go_wp2
    go_quiet (fail)
    have CP := Lib.hid (fun W (q : Below wc.heap.size wc W) => take_kid ((HT.out.then q).k _ _ HF.out).1 hl o hh)
    have hbn : Below wc.heap.size wc (wc.drewN nq) := (Below.refl _ _).trans ⟨rfl, rfl, rfl, Nat.le_refl _, fun _ _ => rfl⟩
    have t1 := HT.out.then hbn
    have T1 := Lib.hid t1
    have hb01 := Nat.le_trans hb0 HK.out.size
    have hob : w.heap.size ≠ B ∧ (L.V (pb o)).ownBlock ≠ some w.heap.size := ⟨fun e => (by
      have q := (T1.out.k _ _ HF.out).2.1
      rw [← e, HB.out] at q; cases q), fun e => (by
      have q := (T1.out.k _ _ HF.out).2.2 _ e
      rw [HB.out] at q; cases q)⟩
    have HOB := Lib.hid hob
    have CM := Lib.hid (fun W v l (q : IxAt W B v l) => IX.many_any B v l W q)
    clear t1 hob hlk
    obtain ⟨dl, hdl⟩ : ∃ dl, del (r (pb o)) (hb o) = dl := ⟨_, rfl⟩
    have HDL := Lib.hid hdl
    simp only [hdl] at CP
    clear hdl
    by_cases he : dl = []
    · subst he
      go_wp2_with (first
        | (go_at_call 53; ((with_reducible refine (CP.out _ hbn).mono ?_); rintro e w3 ⟨v', rfl, i3, f3, k3⟩; have t3 := T1.out.kid HF.out i3 f3 k3 hb01; have s3 := (HS.out.trans (Step.of_below hbn)).trans (T1.out.kid_step HF.out f3 k3); have oc3 := (k3.atC (HO.out.then hbn) HOB.out).c; have c33 := t3.c3; have T3 := Lib.hid t3; have S3 := Lib.hid s3; have I3 := Lib.hid i3; clear t3 s3 i3 f3 k3))
        | (go_at_call 56; ((with_reducible refine (CM.out _ _ _ I3.out).mono ?_); rintro e w4 ⟨rfl, rfl⟩; obtain ⟨w5, hrun, m5, k5⟩ := (T3.out.then (Below.refl _ _).drew).m.drop hp 0)))
      have hrun : (Builtin.delete_ #[52, 9] 0 #[.map (some L.M), .string o.parent]).run Tryz.prog w3.drew = .ok (.tuple #[]) w5 := hrun
      go_region
      go_end0
      exact ⟨rfl, _, by rw [HDL.out]; exact (T3.out.then (Below.refl _ _).drew).leave (upd_same _ _ _) m5 k5, ((S3.out.trans (Step.of_below (Below.refl _ _).drew)).trans ((T3.out.then (Below.refl _ _).drew).leave_step _ k5)).more (by omega)⟩
    · have hne : ((dl.length : Int) == 0) = false := by
        cases dl with
        | nil => exact absurd rfl he
        | cons a l => simp; omega
      clear he
      go_wp2_with (first
        | (go_at_call 53; ((with_reducible refine (CP.out _ hbn).mono ?_); rintro e w3 ⟨v', rfl, i3, f3, k3⟩; have t3 := T1.out.kid HF.out i3 f3 k3 hb01; have s3 := (HS.out.trans (Step.of_below hbn)).trans (T1.out.kid_step HF.out f3 k3); have T3 := Lib.hid t3; have S3 := Lib.hid s3; have I3 := Lib.hid i3; clear t3 s3 i3 f3 k3))
        | (go_at_call 56; ((with_reducible refine (CM.out _ _ _ I3.out).mono ?_); rintro e w4 ⟨rfl, rfl⟩)))
      go_end0
      exact ⟨rfl, _, by rw [HDL.out]; exact T3.out, S3.out⟩
end
end Go.Proofs.YtlfbjgeobibnhaaGreatDoor.TX
