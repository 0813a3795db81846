/-
  PLAIN: a whole row stored into a block of the call's own; a row that a result's cell holds.
-/
import Derived.Test.YtncahpbjbgcnbaaGreatDoorEO0
import Derived.Laws.Tables
import Derived.Laws.Cells
import Derived.Test.YtncahpbjbgcnbaaGreatDoorEO2
namespace Go.Proofs.YtncahpbjbgcnbaaGreatDoor
open Go.RowKit
set_option maxRecDepth 100000
set_option linter.unusedVariables false

theorem storeAs {P : Program} {vs vs' : List Value} (he : vs = vs') (g : Nat) (t : TypeId) (cur : Array Value) (w : World) (hg : w.heap[g]? = some (.cells cur t (0, 0))) (hl : vs'.length = cur.size) (h1 : ∀ v ∈ vs', v.oneCell' = true) :
    (storeCells ⟨g, 0, none⟩ vs 0).run P w = .ok () (w.setRow g vs'.toArray) := by
  subst he
  have := run_storeCells_from (P := P) g t vs 0 cur w hg (by omega) h1
  simpa using this
theorem AtC.row {W : World} {g : Nat} {Z C : Array Value} {T : TypeId} (hg : W.heap[g]? = some (.cells Z T (0, 0))) : AtC (W.setRow g C) g C :=
  ⟨by simpa using (Array.getElem?_eq_some_iff.1 hg).1, fun i => cell_setRow_same _ _ _ _ _ _ _ hg, fun i => by simp [World.frozen?, setRow_heap _ _ _ _ _ _ hg]⟩
theorem bRow {w W : World} (h : Below w.heap.size w W) {g : Nat} (hg : w.heap.size ≤ g) (C : Array Value) : Below w.heap.size w (W.setRow g C) :=
  ⟨by simpa using h.os, by simpa using h.tape, by simpa using h.output, by simpa using h.size, fun k hk => (setRow_other _ _ _ _ (by omega)).trans (h.block k hk)⟩
theorem ret_row {P : Program} {fn : Func} {R : Ending → World → Prop} {act : Act} {W : World} {B : Nat} {C : Array Value} {p : Tmp} {ty : TypeId} (hr : fn.results = #[.cell p ty]) (hp : act.tmps.getD p undef = .pointer (some ⟨B, 0, none⟩)) (hd : act.defers = [])
    (h : AtC W B C) (ha : (isAgg ty).run P W = .ok true W) (hs : (sizeOf ty).run P W = .ok C.size W) (hR : R (.returned (.agg C)) W) : bodyPost P fn R .ret act W := by
  refine bodyPost_ret (v := .agg C) ?_ hd hR
  have hl := run_loadCells_list (P := P) W ⟨B, 0, none⟩ C.toList (fun j v hv => by
    have : (⟨B, 0, none⟩ : Addr).add j = ⟨B, j, none⟩ := by unfold Addr.add; split <;> simp_all
    rw [this, h.c j]; simpa using hv)
  simp only [Array.length_toList, Array.toArray_toList] at hl
  simp at hp
  have h0 : (asAddr (act.tmps[p]?.getD undef)).run P W = .ok ⟨B, 0, none⟩ W := by rw [hp]; simp [asAddr, go_sem]
  simp only [results, hr]
  simp [Sem.run_bind, Result.andThen, h0, loadVar, ha, hs, hl]
end Go.Proofs.YtncahpbjbgcnbaaGreatDoor
/-
  WALK: the program's list of fields.
-/
namespace Go.Proofs.YtncahpbjbgcnbaaGreatDoor
open Go.RowKit
set_option maxRecDepth 100000
set_option linter.unusedVariables false

/-- The field parent. -/
abbrev fld0 : Value := .agg #[.int .u16 1, .string ⟨#[112, 97, 114, 101, 110, 116]⟩, .func (.func 100) #[] #[], .nilFunc, .nilFunc, .nilFunc]
/-- The field type. -/
abbrev fld1 : Value := .agg #[.int .u16 2, .string ⟨#[116, 121, 112, 101]⟩, .nilFunc, .nilFunc, .func (.func 101) #[] #[], .nilFunc]
/-- The field ref. -/
abbrev fld2 : Value := .agg #[.int .u16 4, .string ⟨#[114, 101, 102]⟩, .func (.func 102) #[] #[], .nilFunc, .nilFunc, .nilFunc]
/-- The field lo. -/
abbrev fld3 : Value := .agg #[.int .u16 8, .string ⟨#[108, 111]⟩, .nilFunc, .func (.func 103) #[] #[], .nilFunc, .nilFunc]
/-- The field hi. -/
abbrev fld4 : Value := .agg #[.int .u16 16, .string ⟨#[104, 105]⟩, .nilFunc, .func (.func 104) #[] #[], .nilFunc, .nilFunc]
/-- The field digits. -/
abbrev fld5 : Value := .agg #[.int .u16 32, .string ⟨#[100, 105, 103, 105, 116, 115]⟩, .nilFunc, .nilFunc, .func (.func 105) #[] #[], .nilFunc]
/-- The field on. -/
abbrev fld6 : Value := .agg #[.int .u16 64, .string ⟨#[111, 110]⟩, .nilFunc, .nilFunc, .nilFunc, .func (.func 106) #[] #[]]
/-- The field has. -/
abbrev fld7 : Value := .agg #[.int .u16 128, .string ⟨#[104, 97, 115]⟩, .nilFunc, .nilFunc, .nilFunc, .func (.func 107) #[] #[]]
/-- The field value. -/
abbrev fld8 : Value := .agg #[.int .u16 256, .string ⟨#[118, 97, 108, 117, 101]⟩, .nilFunc, .func (.func 108) #[] #[], .nilFunc, .nilFunc]
/-- The field low. -/
abbrev fld9 : Value := .agg #[.int .u16 512, .string ⟨#[108, 111, 119]⟩, .nilFunc, .func (.func 109) #[] #[], .nilFunc, .nilFunc]
/-- The field high. -/
abbrev fld10 : Value := .agg #[.int .u16 1024, .string ⟨#[104, 105, 103, 104]⟩, .nilFunc, .func (.func 110) #[] #[], .nilFunc, .nilFunc]
/-- The field assoc. -/
abbrev fld11 : Value := .agg #[.int .u16 2048, .string ⟨#[97, 115, 115, 111, 99]⟩, .nilFunc, .nilFunc, .func (.func 111) #[] #[], .nilFunc]
def fieldsL : List Value := [.int .u16 1, .string ⟨#[112, 97, 114, 101, 110, 116]⟩, .func (.func 100) #[] #[], .nilFunc, .nilFunc, .nilFunc, .int .u16 2, .string ⟨#[116, 121, 112, 101]⟩, .nilFunc, .nilFunc, .func (.func 101) #[] #[], .nilFunc, .int .u16 4, .string ⟨#[114, 101, 102]⟩, .func (.func 102) #[] #[], .nilFunc, .nilFunc, .nilFunc, .int .u16 8, .string ⟨#[108, 111]⟩, .nilFunc, .func (.func 103) #[] #[], .nilFunc, .nilFunc, .int .u16 16, .string ⟨#[104, 105]⟩, .nilFunc, .func (.func 104) #[] #[], .nilFunc, .nilFunc, .int .u16 32, .string ⟨#[100, 105, 103, 105, 116, 115]⟩, .nilFunc, .nilFunc, .func (.func 105) #[] #[], .nilFunc, .int .u16 64, .string ⟨#[111, 110]⟩, .nilFunc, .nilFunc, .nilFunc, .func (.func 106) #[] #[], .int .u16 128, .string ⟨#[104, 97, 115]⟩, .nilFunc, .nilFunc, .nilFunc, .func (.func 107) #[] #[], .int .u16 256, .string ⟨#[118, 97, 108, 117, 101]⟩, .nilFunc, .func (.func 108) #[] #[], .nilFunc, .nilFunc, .int .u16 512, .string ⟨#[108, 111, 119]⟩, .nilFunc, .func (.func 109) #[] #[], .nilFunc, .nilFunc, .int .u16 1024, .string ⟨#[104, 105, 103, 104]⟩, .nilFunc, .func (.func 110) #[] #[], .nilFunc, .nilFunc, .int .u16 2048, .string ⟨#[97, 115, 115, 111, 99]⟩, .nilFunc, .nilFunc, .func (.func 111) #[] #[], .nilFunc]
def fieldsA : Array Value := fieldsL.toArray
set_option maxHeartbeats 8000000 in
theorem fields_any (w : World) : Calls Tryz.prog 92 #[] w fun e w' => e = .returned (.agg fieldsA) ∧ Below w.heap.size w w' := by
  have hb : Below w.heap.size w w := Below.refl _ _
  have hg : ∀ o : Obj, (w.alloc o).heap[w.heap.size]? = some o := fun o => by unfold World.alloc; simp
  go_enter Tryz.func92, Tryz.ntmps92
  go_wp2
  rw [storeAs (vs' := fieldsL) (t := 105) (cur := Tryz.zeroCells105)]
  rotate_left
  · kernel_rfl
  · exact hg _
  · kernel_rfl
  · intro v hv
    exact (List.all_eq_true (l := fieldsL)).1 (by kernel_rfl) v hv
  go_wp2
  exact ret_row rfl rfl rfl (AtC.row (hg _)) (Tryz.isAgg105 _) ((Tryz.sizeOf105 _).trans (congrArg (fun n => Result.ok n _) (by kernel_rfl))) ⟨rfl, bRow (bAl hb _) (Nat.le_refl _) _⟩
end Go.Proofs.YtncahpbjbgcnbaaGreatDoor
/-
  WALKS: a field of the list: where it stands in an object; its count; whether it is zero.
-/
namespace Go.Proofs.YtncahpbjbgcnbaaGreatDoor
open Go.RowKit
set_option maxRecDepth 100000
set_option linter.unusedVariables false

theorem run_equalIn_func_nil {P : Program} (d : Nat) (w : World) (t : TypeId) (ps rs : Array TypeId) (va : Bool) (f : Fn) (a c : Array Value) (h : P.underlying t = some (.func ps rs va)) : (Op.equalIn (d + 1) t (.func f a c) .nilFunc).run P w = .ok false w := by simp [Op.equalIn, run_underlying h]
theorem run_equalIn_nil_nil {P : Program} (d : Nat) (w : World) (t : TypeId) (ps rs : Array TypeId) (va : Bool) (h : P.underlying t = some (.func ps rs va)) : (Op.equalIn (d + 1) t .nilFunc .nilFunc).run P w = .ok true w := by simp [Op.equalIn, run_underlying h]
theorem run_neq_func_nil {P : Program} (w : World) (t : TypeId) (ps rs : Array TypeId) (va : Bool) (f : Fn) (a c : Array Value) (h : P.underlying t = some (.func ps rs va)) : (binOp .neq t (.func f a c) .nilFunc).run P w = .ok (.bool true) w := by
  have e : (Op.equal t (.func f a c) .nilFunc).run P w = .ok false w := run_equalIn_func_nil 9999 w t ps rs va f a c h
  simp only [binOp]
  simp [e]
theorem run_neq_nil_nil {P : Program} (w : World) (t : TypeId) (ps rs : Array TypeId) (va : Bool) (h : P.underlying t = some (.func ps rs va)) : (binOp .neq t .nilFunc .nilFunc).run P w = .ok (.bool false) w := by
  have e : (Op.equal t .nilFunc .nilFunc).run P w = .ok true w := run_equalIn_nil_nil 9999 w t ps rs va h
  simp only [binOp]
  simp [e]
def boolI (b : Bool) : Int := if b then 1 else 0

theorem at0 (B : Nat) (w : World) : Calls Tryz.prog 100 #[.pointer (some ⟨B, 0, none⟩)] w fun e w' => e = .returned (.pointer (some ⟨B, 2, none⟩)) ∧ w = w' := by
  go_enter Tryz.func100, Tryz.ntmps100
  go_wp2
  go_ret
  exact ⟨rfl, rfl⟩
set_option maxHeartbeats 2000000 in
theorem zero0 (o : Ob) (B : Nat) (w : World) (h : AtC w B (obCells o)) : Calls Tryz.prog 93 #[fld0, .pointer (some ⟨B, 0, none⟩)] w fun e w' => e = .returned (.bool (o.parent.toList.isEmpty)) ∧ Below w.heap.size w w' := by
  have hb : Below w.heap.size w w := Below.refl _ _
  have C := fun W => Lib.hid (at0 B W)
  have Nw := fun W => run_neq_func_nil W _ _ _ _ (.func 100) #[] #[] Tryz.underlying99
  have h2 := (h.al (.cells #[.int .u16 1, .string ⟨#[112, 97, 114, 101, 110, 116]⟩, .func (.func 100) #[] #[], .nilFunc, .nilFunc, .nilFunc] 104)).c
  go_enter Tryz.func93, Tryz.ntmps93
  go_wp2_with (go_at_call 100; ((with_reducible refine (C _).out.mono ?_); rintro e w1 ⟨rfl, rfl⟩))
  go_ret
  exact ⟨rfl, bAl hb _⟩
theorem at1 (B : Nat) (w : World) : Calls Tryz.prog 101 #[.pointer (some ⟨B, 0, none⟩)] w fun e w' => e = .returned (.pointer (some ⟨B, 3, none⟩)) ∧ w = w' := by
  go_enter Tryz.func101, Tryz.ntmps101
  go_wp2
  go_ret
  exact ⟨rfl, rfl⟩
set_option maxHeartbeats 2000000 in
theorem count1 (o : Ob) (B : Nat) (w : World) (h : AtC w B (obCells o)) (hk : o.typ ≤ 255) : Calls Tryz.prog 112 #[fld1, .pointer (some ⟨B, 0, none⟩)] w fun e w' => e = .returned (.int .i64 ((o.typ : Int))) ∧ Below w.heap.size w w' := by
  have hb : Below w.heap.size w w := Below.refl _ _
  have C := fun W => Lib.hid (at1 B W)
  have Nn := fun W => run_neq_nil_nil W _ _ _ _ Tryz.underlying100
  have Ns := fun W => run_neq_func_nil W _ _ _ _ (.func 101) #[] #[] Tryz.underlying101
  have h2 := (h.al (.cells #[.int .u16 2, .string ⟨#[116, 121, 112, 101]⟩, .nilFunc, .nilFunc, .func (.func 101) #[] #[], .nilFunc] 104)).c
  go_enter Tryz.func112, Tryz.ntmps112
  go_wp2_with (go_at_call 101; ((with_reducible refine (C _).out.mono ?_); rintro e w1 ⟨rfl, rfl⟩))
  go_ret
  exact ⟨rfl, bAl hb _⟩
set_option maxHeartbeats 2000000 in
theorem zero1 (o : Ob) (B : Nat) (w : World) (h : AtC w B (obCells o)) (hk : o.typ ≤ 255) : Calls Tryz.prog 93 #[fld1, .pointer (some ⟨B, 0, none⟩)] w fun e w' => e = .returned (.bool ((o.typ : Int) == 0)) ∧ Below w.heap.size w w' := by
  have hb : Below w.heap.size w w := Below.refl _ _
  have C := Lib.hid (count1 o B _ (h.al (.cells #[.int .u16 2, .string ⟨#[116, 121, 112, 101]⟩, .nilFunc, .nilFunc, .func (.func 101) #[] #[], .nilFunc] 104)) hk)
  have Nw := fun W => run_neq_nil_nil W _ _ _ _ Tryz.underlying99
  generalize (o.typ : Int) = c at *
  clear h
  go_enter Tryz.func93, Tryz.ntmps93
  go_wp2_with (go_at_call 112; ((with_reducible refine C.out.mono ?_); rintro e w1 ⟨rfl, k1⟩; replace hb := bThen (bAl hb _) k1))
  go_ret
  exact ⟨rfl, hb⟩
theorem at2 (B : Nat) (w : World) : Calls Tryz.prog 102 #[.pointer (some ⟨B, 0, none⟩)] w fun e w' => e = .returned (.pointer (some ⟨B, 4, none⟩)) ∧ w = w' := by
  go_enter Tryz.func102, Tryz.ntmps102
  go_wp2
  go_ret
  exact ⟨rfl, rfl⟩
set_option maxHeartbeats 2000000 in
theorem zero2 (o : Ob) (B : Nat) (w : World) (h : AtC w B (obCells o)) : Calls Tryz.prog 93 #[fld2, .pointer (some ⟨B, 0, none⟩)] w fun e w' => e = .returned (.bool (o.ref.toList.isEmpty)) ∧ Below w.heap.size w w' := by
  have hb : Below w.heap.size w w := Below.refl _ _
  have C := fun W => Lib.hid (at2 B W)
  have Nw := fun W => run_neq_func_nil W _ _ _ _ (.func 102) #[] #[] Tryz.underlying99
  have h2 := (h.al (.cells #[.int .u16 4, .string ⟨#[114, 101, 102]⟩, .func (.func 102) #[] #[], .nilFunc, .nilFunc, .nilFunc] 104)).c
  go_enter Tryz.func93, Tryz.ntmps93
  go_wp2_with (go_at_call 102; ((with_reducible refine (C _).out.mono ?_); rintro e w1 ⟨rfl, rfl⟩))
  go_ret
  exact ⟨rfl, bAl hb _⟩
theorem at3 (B : Nat) (w : World) : Calls Tryz.prog 103 #[.pointer (some ⟨B, 0, none⟩)] w fun e w' => e = .returned (.pointer (some ⟨B, 5, none⟩)) ∧ w = w' := by
  go_enter Tryz.func103, Tryz.ntmps103
  go_wp2
  go_ret
  exact ⟨rfl, rfl⟩
set_option maxHeartbeats 2000000 in
theorem count3 (o : Ob) (B : Nat) (w : World) (h : AtC w B (obCells o)) : Calls Tryz.prog 112 #[fld3, .pointer (some ⟨B, 0, none⟩)] w fun e w' => e = .returned (.int .i64 (o.lo)) ∧ Below w.heap.size w w' := by
  have hb : Below w.heap.size w w := Below.refl _ _
  have C := fun W => Lib.hid (at3 B W)
  have Nn := fun W => run_neq_func_nil W _ _ _ _ (.func 103) #[] #[] Tryz.underlying100
  have h2 := (h.al (.cells #[.int .u16 8, .string ⟨#[108, 111]⟩, .nilFunc, .func (.func 103) #[] #[], .nilFunc, .nilFunc] 104)).c
  go_enter Tryz.func112, Tryz.ntmps112
  go_wp2_with (go_at_call 103; ((with_reducible refine (C _).out.mono ?_); rintro e w1 ⟨rfl, rfl⟩))
  go_ret
  exact ⟨rfl, bAl hb _⟩
set_option maxHeartbeats 2000000 in
theorem zero3 (o : Ob) (B : Nat) (w : World) (h : AtC w B (obCells o)) : Calls Tryz.prog 93 #[fld3, .pointer (some ⟨B, 0, none⟩)] w fun e w' => e = .returned (.bool (o.lo == 0)) ∧ Below w.heap.size w w' := by
  have hb : Below w.heap.size w w := Below.refl _ _
  have C := Lib.hid (count3 o B _ (h.al (.cells #[.int .u16 8, .string ⟨#[108, 111]⟩, .nilFunc, .func (.func 103) #[] #[], .nilFunc, .nilFunc] 104)))
  have Nw := fun W => run_neq_nil_nil W _ _ _ _ Tryz.underlying99
  generalize o.lo = c at *
  clear h
  go_enter Tryz.func93, Tryz.ntmps93
  go_wp2_with (go_at_call 112; ((with_reducible refine C.out.mono ?_); rintro e w1 ⟨rfl, k1⟩; replace hb := bThen (bAl hb _) k1))
  go_ret
  exact ⟨rfl, hb⟩
theorem at4 (B : Nat) (w : World) : Calls Tryz.prog 104 #[.pointer (some ⟨B, 0, none⟩)] w fun e w' => e = .returned (.pointer (some ⟨B, 6, none⟩)) ∧ w = w' := by
  go_enter Tryz.func104, Tryz.ntmps104
  go_wp2
  go_ret
  exact ⟨rfl, rfl⟩
set_option maxHeartbeats 2000000 in
theorem count4 (o : Ob) (B : Nat) (w : World) (h : AtC w B (obCells o)) : Calls Tryz.prog 112 #[fld4, .pointer (some ⟨B, 0, none⟩)] w fun e w' => e = .returned (.int .i64 (o.hi)) ∧ Below w.heap.size w w' := by
  have hb : Below w.heap.size w w := Below.refl _ _
  have C := fun W => Lib.hid (at4 B W)
  have Nn := fun W => run_neq_func_nil W _ _ _ _ (.func 104) #[] #[] Tryz.underlying100
  have h2 := (h.al (.cells #[.int .u16 16, .string ⟨#[104, 105]⟩, .nilFunc, .func (.func 104) #[] #[], .nilFunc, .nilFunc] 104)).c
  go_enter Tryz.func112, Tryz.ntmps112
  go_wp2_with (go_at_call 104; ((with_reducible refine (C _).out.mono ?_); rintro e w1 ⟨rfl, rfl⟩))
  go_ret
  exact ⟨rfl, bAl hb _⟩
set_option maxHeartbeats 2000000 in
theorem zero4 (o : Ob) (B : Nat) (w : World) (h : AtC w B (obCells o)) : Calls Tryz.prog 93 #[fld4, .pointer (some ⟨B, 0, none⟩)] w fun e w' => e = .returned (.bool (o.hi == 0)) ∧ Below w.heap.size w w' := by
  have hb : Below w.heap.size w w := Below.refl _ _
  have C := Lib.hid (count4 o B _ (h.al (.cells #[.int .u16 16, .string ⟨#[104, 105]⟩, .nilFunc, .func (.func 104) #[] #[], .nilFunc, .nilFunc] 104)))
  have Nw := fun W => run_neq_nil_nil W _ _ _ _ Tryz.underlying99
  generalize o.hi = c at *
  clear h
  go_enter Tryz.func93, Tryz.ntmps93
  go_wp2_with (go_at_call 112; ((with_reducible refine C.out.mono ?_); rintro e w1 ⟨rfl, k1⟩; replace hb := bThen (bAl hb _) k1))
  go_ret
  exact ⟨rfl, hb⟩
theorem at5 (B : Nat) (w : World) : Calls Tryz.prog 105 #[.pointer (some ⟨B, 0, none⟩)] w fun e w' => e = .returned (.pointer (some ⟨B, 7, none⟩)) ∧ w = w' := by
  go_enter Tryz.func105, Tryz.ntmps105
  go_wp2
  go_ret
  exact ⟨rfl, rfl⟩
set_option maxHeartbeats 2000000 in
theorem count5 (o : Ob) (B : Nat) (w : World) (h : AtC w B (obCells o)) (hk : o.digits ≤ 255) : Calls Tryz.prog 112 #[fld5, .pointer (some ⟨B, 0, none⟩)] w fun e w' => e = .returned (.int .i64 ((o.digits : Int))) ∧ Below w.heap.size w w' := by
  have hb : Below w.heap.size w w := Below.refl _ _
  have C := fun W => Lib.hid (at5 B W)
  have Nn := fun W => run_neq_nil_nil W _ _ _ _ Tryz.underlying100
  have Ns := fun W => run_neq_func_nil W _ _ _ _ (.func 105) #[] #[] Tryz.underlying101
  have h2 := (h.al (.cells #[.int .u16 32, .string ⟨#[100, 105, 103, 105, 116, 115]⟩, .nilFunc, .nilFunc, .func (.func 105) #[] #[], .nilFunc] 104)).c
  go_enter Tryz.func112, Tryz.ntmps112
  go_wp2_with (go_at_call 105; ((with_reducible refine (C _).out.mono ?_); rintro e w1 ⟨rfl, rfl⟩))
  go_ret
  exact ⟨rfl, bAl hb _⟩
set_option maxHeartbeats 2000000 in
theorem zero5 (o : Ob) (B : Nat) (w : World) (h : AtC w B (obCells o)) (hk : o.digits ≤ 255) : Calls Tryz.prog 93 #[fld5, .pointer (some ⟨B, 0, none⟩)] w fun e w' => e = .returned (.bool ((o.digits : Int) == 0)) ∧ Below w.heap.size w w' := by
  have hb : Below w.heap.size w w := Below.refl _ _
  have C := Lib.hid (count5 o B _ (h.al (.cells #[.int .u16 32, .string ⟨#[100, 105, 103, 105, 116, 115]⟩, .nilFunc, .nilFunc, .func (.func 105) #[] #[], .nilFunc] 104)) hk)
  have Nw := fun W => run_neq_nil_nil W _ _ _ _ Tryz.underlying99
  generalize (o.digits : Int) = c at *
  clear h
  go_enter Tryz.func93, Tryz.ntmps93
  go_wp2_with (go_at_call 112; ((with_reducible refine C.out.mono ?_); rintro e w1 ⟨rfl, k1⟩; replace hb := bThen (bAl hb _) k1))
  go_ret
  exact ⟨rfl, hb⟩
theorem at6 (B : Nat) (w : World) : Calls Tryz.prog 106 #[.pointer (some ⟨B, 0, none⟩)] w fun e w' => e = .returned (.pointer (some ⟨B, 8, none⟩)) ∧ w = w' := by
  go_enter Tryz.func106, Tryz.ntmps106
  go_wp2
  go_ret
  exact ⟨rfl, rfl⟩
set_option maxHeartbeats 2000000 in
theorem count6 (o : Ob) (B : Nat) (w : World) (h : AtC w B (obCells o)) : Calls Tryz.prog 112 #[fld6, .pointer (some ⟨B, 0, none⟩)] w fun e w' => e = .returned (.int .i64 (boolI o.on)) ∧ Below w.heap.size w w' := by
  have hb : Below w.heap.size w w := Below.refl _ _
  have C := fun W => Lib.hid (at6 B W)
  have Nn := fun W => run_neq_nil_nil W _ _ _ _ Tryz.underlying100
  have Ns := fun W => run_neq_nil_nil W _ _ _ _ Tryz.underlying101
  have h2 := (h.al (.cells #[.int .u16 64, .string ⟨#[111, 110]⟩, .nilFunc, .nilFunc, .nilFunc, .func (.func 106) #[] #[]] 104)).c
  rcases o with ⟨xh, xk, xp, xt, xr, xlo, xhi, xd, xon, xhas, xv, xlw, xhg, xa⟩
  cases xon
  all_goals
    go_enter Tryz.func112, Tryz.ntmps112
    go_wp2_with (go_at_call 106; ((with_reducible refine (C _).out.mono ?_); rintro e w1 ⟨rfl, rfl⟩))
    go_ret
    exact ⟨rfl, bAl hb _⟩
set_option maxHeartbeats 2000000 in
theorem zero6 (o : Ob) (B : Nat) (w : World) (h : AtC w B (obCells o)) : Calls Tryz.prog 93 #[fld6, .pointer (some ⟨B, 0, none⟩)] w fun e w' => e = .returned (.bool (boolI o.on == 0)) ∧ Below w.heap.size w w' := by
  have hb : Below w.heap.size w w := Below.refl _ _
  have C := Lib.hid (count6 o B _ (h.al (.cells #[.int .u16 64, .string ⟨#[111, 110]⟩, .nilFunc, .nilFunc, .nilFunc, .func (.func 106) #[] #[]] 104)))
  have Nw := fun W => run_neq_nil_nil W _ _ _ _ Tryz.underlying99
  generalize boolI o.on = c at *
  clear h
  go_enter Tryz.func93, Tryz.ntmps93
  go_wp2_with (go_at_call 112; ((with_reducible refine C.out.mono ?_); rintro e w1 ⟨rfl, k1⟩; replace hb := bThen (bAl hb _) k1))
  go_ret
  exact ⟨rfl, hb⟩
theorem at7 (B : Nat) (w : World) : Calls Tryz.prog 107 #[.pointer (some ⟨B, 0, none⟩)] w fun e w' => e = .returned (.pointer (some ⟨B, 9, none⟩)) ∧ w = w' := by
  go_enter Tryz.func107, Tryz.ntmps107
  go_wp2
  go_ret
  exact ⟨rfl, rfl⟩
set_option maxHeartbeats 2000000 in
theorem count7 (o : Ob) (B : Nat) (w : World) (h : AtC w B (obCells o)) : Calls Tryz.prog 112 #[fld7, .pointer (some ⟨B, 0, none⟩)] w fun e w' => e = .returned (.int .i64 (boolI o.has)) ∧ Below w.heap.size w w' := by
  have hb : Below w.heap.size w w := Below.refl _ _
  have C := fun W => Lib.hid (at7 B W)
  have Nn := fun W => run_neq_nil_nil W _ _ _ _ Tryz.underlying100
  have Ns := fun W => run_neq_nil_nil W _ _ _ _ Tryz.underlying101
  have h2 := (h.al (.cells #[.int .u16 128, .string ⟨#[104, 97, 115]⟩, .nilFunc, .nilFunc, .nilFunc, .func (.func 107) #[] #[]] 104)).c
  rcases o with ⟨xh, xk, xp, xt, xr, xlo, xhi, xd, xon, xhas, xv, xlw, xhg, xa⟩
  cases xhas
  all_goals
    go_enter Tryz.func112, Tryz.ntmps112
    go_wp2_with (go_at_call 107; ((with_reducible refine (C _).out.mono ?_); rintro e w1 ⟨rfl, rfl⟩))
    go_ret
    exact ⟨rfl, bAl hb _⟩
set_option maxHeartbeats 2000000 in
theorem zero7 (o : Ob) (B : Nat) (w : World) (h : AtC w B (obCells o)) : Calls Tryz.prog 93 #[fld7, .pointer (some ⟨B, 0, none⟩)] w fun e w' => e = .returned (.bool (boolI o.has == 0)) ∧ Below w.heap.size w w' := by
  have hb : Below w.heap.size w w := Below.refl _ _
  have C := Lib.hid (count7 o B _ (h.al (.cells #[.int .u16 128, .string ⟨#[104, 97, 115]⟩, .nilFunc, .nilFunc, .nilFunc, .func (.func 107) #[] #[]] 104)))
  have Nw := fun W => run_neq_nil_nil W _ _ _ _ Tryz.underlying99
  generalize boolI o.has = c at *
  clear h
  go_enter Tryz.func93, Tryz.ntmps93
  go_wp2_with (go_at_call 112; ((with_reducible refine C.out.mono ?_); rintro e w1 ⟨rfl, k1⟩; replace hb := bThen (bAl hb _) k1))
  go_ret
  exact ⟨rfl, hb⟩
theorem at8 (B : Nat) (w : World) : Calls Tryz.prog 108 #[.pointer (some ⟨B, 0, none⟩)] w fun e w' => e = .returned (.pointer (some ⟨B, 10, none⟩)) ∧ w = w' := by
  go_enter Tryz.func108, Tryz.ntmps108
  go_wp2
  go_ret
  exact ⟨rfl, rfl⟩
set_option maxHeartbeats 2000000 in
theorem count8 (o : Ob) (B : Nat) (w : World) (h : AtC w B (obCells o)) : Calls Tryz.prog 112 #[fld8, .pointer (some ⟨B, 0, none⟩)] w fun e w' => e = .returned (.int .i64 (o.value)) ∧ Below w.heap.size w w' := by
  have hb : Below w.heap.size w w := Below.refl _ _
  have C := fun W => Lib.hid (at8 B W)
  have Nn := fun W => run_neq_func_nil W _ _ _ _ (.func 108) #[] #[] Tryz.underlying100
  have h2 := (h.al (.cells #[.int .u16 256, .string ⟨#[118, 97, 108, 117, 101]⟩, .nilFunc, .func (.func 108) #[] #[], .nilFunc, .nilFunc] 104)).c
  go_enter Tryz.func112, Tryz.ntmps112
  go_wp2_with (go_at_call 108; ((with_reducible refine (C _).out.mono ?_); rintro e w1 ⟨rfl, rfl⟩))
  go_ret
  exact ⟨rfl, bAl hb _⟩
set_option maxHeartbeats 2000000 in
theorem zero8 (o : Ob) (B : Nat) (w : World) (h : AtC w B (obCells o)) : Calls Tryz.prog 93 #[fld8, .pointer (some ⟨B, 0, none⟩)] w fun e w' => e = .returned (.bool (o.value == 0)) ∧ Below w.heap.size w w' := by
  have hb : Below w.heap.size w w := Below.refl _ _
  have C := Lib.hid (count8 o B _ (h.al (.cells #[.int .u16 256, .string ⟨#[118, 97, 108, 117, 101]⟩, .nilFunc, .func (.func 108) #[] #[], .nilFunc, .nilFunc] 104)))
  have Nw := fun W => run_neq_nil_nil W _ _ _ _ Tryz.underlying99
  generalize o.value = c at *
  clear h
  go_enter Tryz.func93, Tryz.ntmps93
  go_wp2_with (go_at_call 112; ((with_reducible refine C.out.mono ?_); rintro e w1 ⟨rfl, k1⟩; replace hb := bThen (bAl hb _) k1))
  go_ret
  exact ⟨rfl, hb⟩
theorem at9 (B : Nat) (w : World) : Calls Tryz.prog 109 #[.pointer (some ⟨B, 0, none⟩)] w fun e w' => e = .returned (.pointer (some ⟨B, 11, none⟩)) ∧ w = w' := by
  go_enter Tryz.func109, Tryz.ntmps109
  go_wp2
  go_ret
  exact ⟨rfl, rfl⟩
set_option maxHeartbeats 2000000 in
theorem count9 (o : Ob) (B : Nat) (w : World) (h : AtC w B (obCells o)) : Calls Tryz.prog 112 #[fld9, .pointer (some ⟨B, 0, none⟩)] w fun e w' => e = .returned (.int .i64 (o.low)) ∧ Below w.heap.size w w' := by
  have hb : Below w.heap.size w w := Below.refl _ _
  have C := fun W => Lib.hid (at9 B W)
  have Nn := fun W => run_neq_func_nil W _ _ _ _ (.func 109) #[] #[] Tryz.underlying100
  have h2 := (h.al (.cells #[.int .u16 512, .string ⟨#[108, 111, 119]⟩, .nilFunc, .func (.func 109) #[] #[], .nilFunc, .nilFunc] 104)).c
  go_enter Tryz.func112, Tryz.ntmps112
  go_wp2_with (go_at_call 109; ((with_reducible refine (C _).out.mono ?_); rintro e w1 ⟨rfl, rfl⟩))
  go_ret
  exact ⟨rfl, bAl hb _⟩
set_option maxHeartbeats 2000000 in
theorem zero9 (o : Ob) (B : Nat) (w : World) (h : AtC w B (obCells o)) : Calls Tryz.prog 93 #[fld9, .pointer (some ⟨B, 0, none⟩)] w fun e w' => e = .returned (.bool (o.low == 0)) ∧ Below w.heap.size w w' := by
  have hb : Below w.heap.size w w := Below.refl _ _
  have C := Lib.hid (count9 o B _ (h.al (.cells #[.int .u16 512, .string ⟨#[108, 111, 119]⟩, .nilFunc, .func (.func 109) #[] #[], .nilFunc, .nilFunc] 104)))
  have Nw := fun W => run_neq_nil_nil W _ _ _ _ Tryz.underlying99
  generalize o.low = c at *
  clear h
  go_enter Tryz.func93, Tryz.ntmps93
  go_wp2_with (go_at_call 112; ((with_reducible refine C.out.mono ?_); rintro e w1 ⟨rfl, k1⟩; replace hb := bThen (bAl hb _) k1))
  go_ret
  exact ⟨rfl, hb⟩
theorem at10 (B : Nat) (w : World) : Calls Tryz.prog 110 #[.pointer (some ⟨B, 0, none⟩)] w fun e w' => e = .returned (.pointer (some ⟨B, 12, none⟩)) ∧ w = w' := by
  go_enter Tryz.func110, Tryz.ntmps110
  go_wp2
  go_ret
  exact ⟨rfl, rfl⟩
set_option maxHeartbeats 2000000 in
theorem count10 (o : Ob) (B : Nat) (w : World) (h : AtC w B (obCells o)) : Calls Tryz.prog 112 #[fld10, .pointer (some ⟨B, 0, none⟩)] w fun e w' => e = .returned (.int .i64 (o.high)) ∧ Below w.heap.size w w' := by
  have hb : Below w.heap.size w w := Below.refl _ _
  have C := fun W => Lib.hid (at10 B W)
  have Nn := fun W => run_neq_func_nil W _ _ _ _ (.func 110) #[] #[] Tryz.underlying100
  have h2 := (h.al (.cells #[.int .u16 1024, .string ⟨#[104, 105, 103, 104]⟩, .nilFunc, .func (.func 110) #[] #[], .nilFunc, .nilFunc] 104)).c
  go_enter Tryz.func112, Tryz.ntmps112
  go_wp2_with (go_at_call 110; ((with_reducible refine (C _).out.mono ?_); rintro e w1 ⟨rfl, rfl⟩))
  go_ret
  exact ⟨rfl, bAl hb _⟩
set_option maxHeartbeats 2000000 in
theorem zero10 (o : Ob) (B : Nat) (w : World) (h : AtC w B (obCells o)) : Calls Tryz.prog 93 #[fld10, .pointer (some ⟨B, 0, none⟩)] w fun e w' => e = .returned (.bool (o.high == 0)) ∧ Below w.heap.size w w' := by
  have hb : Below w.heap.size w w := Below.refl _ _
  have C := Lib.hid (count10 o B _ (h.al (.cells #[.int .u16 1024, .string ⟨#[104, 105, 103, 104]⟩, .nilFunc, .func (.func 110) #[] #[], .nilFunc, .nilFunc] 104)))
  have Nw := fun W => run_neq_nil_nil W _ _ _ _ Tryz.underlying99
  generalize o.high = c at *
  clear h
  go_enter Tryz.func93, Tryz.ntmps93
  go_wp2_with (go_at_call 112; ((with_reducible refine C.out.mono ?_); rintro e w1 ⟨rfl, k1⟩; replace hb := bThen (bAl hb _) k1))
  go_ret
  exact ⟨rfl, hb⟩
theorem at11 (B : Nat) (w : World) : Calls Tryz.prog 111 #[.pointer (some ⟨B, 0, none⟩)] w fun e w' => e = .returned (.pointer (some ⟨B, 13, none⟩)) ∧ w = w' := by
  go_enter Tryz.func111, Tryz.ntmps111
  go_wp2
  go_ret
  exact ⟨rfl, rfl⟩
set_option maxHeartbeats 2000000 in
theorem count11 (o : Ob) (B : Nat) (w : World) (h : AtC w B (obCells o)) (hk : o.assoc ≤ 255) : Calls Tryz.prog 112 #[fld11, .pointer (some ⟨B, 0, none⟩)] w fun e w' => e = .returned (.int .i64 ((o.assoc : Int))) ∧ Below w.heap.size w w' := by
  have hb : Below w.heap.size w w := Below.refl _ _
  have C := fun W => Lib.hid (at11 B W)
  have Nn := fun W => run_neq_nil_nil W _ _ _ _ Tryz.underlying100
  have Ns := fun W => run_neq_func_nil W _ _ _ _ (.func 111) #[] #[] Tryz.underlying101
  have h2 := (h.al (.cells #[.int .u16 2048, .string ⟨#[97, 115, 115, 111, 99]⟩, .nilFunc, .nilFunc, .func (.func 111) #[] #[], .nilFunc] 104)).c
  go_enter Tryz.func112, Tryz.ntmps112
  go_wp2_with (go_at_call 111; ((with_reducible refine (C _).out.mono ?_); rintro e w1 ⟨rfl, rfl⟩))
  go_ret
  exact ⟨rfl, bAl hb _⟩
set_option maxHeartbeats 2000000 in
theorem zero11 (o : Ob) (B : Nat) (w : World) (h : AtC w B (obCells o)) (hk : o.assoc ≤ 255) : Calls Tryz.prog 93 #[fld11, .pointer (some ⟨B, 0, none⟩)] w fun e w' => e = .returned (.bool ((o.assoc : Int) == 0)) ∧ Below w.heap.size w w' := by
  have hb : Below w.heap.size w w := Below.refl _ _
  have C := Lib.hid (count11 o B _ (h.al (.cells #[.int .u16 2048, .string ⟨#[97, 115, 115, 111, 99]⟩, .nilFunc, .nilFunc, .func (.func 111) #[] #[], .nilFunc] 104)) hk)
  have Nw := fun W => run_neq_nil_nil W _ _ _ _ Tryz.underlying99
  generalize (o.assoc : Int) = c at *
  clear h
  go_enter Tryz.func93, Tryz.ntmps93
  go_wp2_with (go_at_call 112; ((with_reducible refine C.out.mono ?_); rintro e w1 ⟨rfl, k1⟩; replace hb := bThen (bAl hb _) k1))
  go_ret
  exact ⟨rfl, hb⟩
end Go.Proofs.YtncahpbjbgcnbaaGreatDoor
