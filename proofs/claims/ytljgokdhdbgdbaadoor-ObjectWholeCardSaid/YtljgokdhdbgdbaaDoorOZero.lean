/-
  WALKS: a field of the list: where it stands in an object; its count; whether it is zero.
-/
import Derived.Test.YtljgokdhdbgdbaaDoorOFields
namespace Go.Proofs.YtljgokdhdbgdbaaDoor
open Go.RowKit
set_option maxRecDepth 100000
set_option linter.unusedVariables false

theorem run_equalIn_func_nil {P : Program} (d : Nat) (w : World) (t : TypeId) (ps rs : Array TypeId) (va : Bool) (f : Fn) (a c : Array Value) (h : P.underlying t = some (.func ps rs va)) : (Op.equalIn (d + 1) t (.func f a c) .nilFunc).run P w = .ok false w := by simp [Op.equalIn, run_underlying h]
theorem run_equalIn_nil_nil {P : Program} (d : Nat) (w : World) (t : TypeId) (ps rs : Array TypeId) (va : Bool) (h : P.underlying t = some (.func ps rs va)) : (Op.equalIn (d + 1) t .nilFunc .nilFunc).run P w = .ok true w := by simp [Op.equalIn, run_underlying h]
theorem run_neq_func_nil {P : Program} (w : World) (t : TypeId) (ps rs : Array TypeId) (va : Bool) (f : Fn) (a c : Array Value) (h : P.underlying t = some (.func ps rs va)) : (binOp .neq t (.func f a c) .nilFunc).run P w = .ok (.bool true) w := by
  have e : (Op.equal t (.func f a c) .nilFunc).run P w = .ok false w := run_equalIn_func_nil 9999 w t ps rs va f a c h
  simp only [binOp]
  simp [e]
theorem run_neq_nil_nil {P : Program} (w : World) (t : TypeId) (ps rs : Array TypeId) (va : Bool) (h : P.underlying t = some (.func ps rs va)) : (binOp .neq t .nilFunc .nilFunc).run P w = .ok (.bool false) w := by
  have e : (Op.equal t .nilFunc .nilFunc).run P w = .ok true w := run_equalIn_nil_nil 9999 w t ps rs va h
  simp only [binOp]
  simp [e]
def boolI (b : Bool) : Int := if b then 1 else 0

theorem at0 (B : Nat) (w : World) : Calls Tryd.prog 55 #[.pointer (some ⟨B, 0, none⟩)] w fun e w' => e = .returned (.pointer (some ⟨B, 2, none⟩)) ∧ w = w' := by
  go_enter Tryd.func55, Tryd.ntmps55
  go_wp2
  go_ret
  exact ⟨rfl, rfl⟩
set_option maxHeartbeats 2000000 in
theorem zero0 (o : Ob) (B : Nat) (w : World) (h : AtC w B (obCells o)) : Calls Tryd.prog 35 #[fld0, .pointer (some ⟨B, 0, none⟩)] w fun e w' => e = .returned (.bool (o.parent.toList.isEmpty)) ∧ Below w.heap.size w w' := by
  have hb : Below w.heap.size w w := Below.refl _ _
  have C := fun W => Lib.hid (at0 B W)
  have Nw := fun W => run_neq_func_nil W _ _ _ _ (.func 55) #[] #[] Tryd.underlying49
  have h2 := (h.al (.cells #[.int .u16 1, .string ⟨#[112, 97, 114, 101, 110, 116]⟩, .func (.func 55) #[] #[], .nilFunc, .nilFunc, .nilFunc] 54)).c
  go_enter Tryd.func35, Tryd.ntmps35
  go_wp2_with (go_at_call 55; ((with_reducible refine (C _).out.mono ?_); rintro e w1 ⟨rfl, rfl⟩))
  go_ret
  exact ⟨rfl, bAl hb _⟩
theorem at1 (B : Nat) (w : World) : Calls Tryd.prog 56 #[.pointer (some ⟨B, 0, none⟩)] w fun e w' => e = .returned (.pointer (some ⟨B, 3, none⟩)) ∧ w = w' := by
  go_enter Tryd.func56, Tryd.ntmps56
  go_wp2
  go_ret
  exact ⟨rfl, rfl⟩
set_option maxHeartbeats 2000000 in
theorem count1 (o : Ob) (B : Nat) (w : World) (h : AtC w B (obCells o)) (hk : o.typ ≤ 255) : Calls Tryd.prog 67 #[fld1, .pointer (some ⟨B, 0, none⟩)] w fun e w' => e = .returned (.int .i64 ((o.typ : Int))) ∧ Below w.heap.size w w' := by
  have hb : Below w.heap.size w w := Below.refl _ _
  have C := fun W => Lib.hid (at1 B W)
  have Nn := fun W => run_neq_nil_nil W _ _ _ _ Tryd.underlying50
  have Ns := fun W => run_neq_func_nil W _ _ _ _ (.func 56) #[] #[] Tryd.underlying51
  have h2 := (h.al (.cells #[.int .u16 2, .string ⟨#[116, 121, 112, 101]⟩, .nilFunc, .nilFunc, .func (.func 56) #[] #[], .nilFunc] 54)).c
  go_enter Tryd.func67, Tryd.ntmps67
  go_wp2_with (go_at_call 56; ((with_reducible refine (C _).out.mono ?_); rintro e w1 ⟨rfl, rfl⟩))
  go_ret
  exact ⟨rfl, bAl hb _⟩
set_option maxHeartbeats 2000000 in
theorem zero1 (o : Ob) (B : Nat) (w : World) (h : AtC w B (obCells o)) (hk : o.typ ≤ 255) : Calls Tryd.prog 35 #[fld1, .pointer (some ⟨B, 0, none⟩)] w fun e w' => e = .returned (.bool ((o.typ : Int) == 0)) ∧ Below w.heap.size w w' := by
  have hb : Below w.heap.size w w := Below.refl _ _
  have C := Lib.hid (count1 o B _ (h.al (.cells #[.int .u16 2, .string ⟨#[116, 121, 112, 101]⟩, .nilFunc, .nilFunc, .func (.func 56) #[] #[], .nilFunc] 54)) hk)
  have Nw := fun W => run_neq_nil_nil W _ _ _ _ Tryd.underlying49
  generalize (o.typ : Int) = c at *
  clear h
  go_enter Tryd.func35, Tryd.ntmps35
  go_wp2_with (go_at_call 67; ((with_reducible refine C.out.mono ?_); rintro e w1 ⟨rfl, k1⟩; replace hb := bThen (bAl hb _) k1))
  go_ret
  exact ⟨rfl, hb⟩
theorem at2 (B : Nat) (w : World) : Calls Tryd.prog 57 #[.pointer (some ⟨B, 0, none⟩)] w fun e w' => e = .returned (.pointer (some ⟨B, 4, none⟩)) ∧ w = w' := by
  go_enter Tryd.func57, Tryd.ntmps57
  go_wp2
  go_ret
  exact ⟨rfl, rfl⟩
set_option maxHeartbeats 2000000 in
theorem zero2 (o : Ob) (B : Nat) (w : World) (h : AtC w B (obCells o)) : Calls Tryd.prog 35 #[fld2, .pointer (some ⟨B, 0, none⟩)] w fun e w' => e = .returned (.bool (o.ref.toList.isEmpty)) ∧ Below w.heap.size w w' := by
  have hb : Below w.heap.size w w := Below.refl _ _
  have C := fun W => Lib.hid (at2 B W)
  have Nw := fun W => run_neq_func_nil W _ _ _ _ (.func 57) #[] #[] Tryd.underlying49
  have h2 := (h.al (.cells #[.int .u16 4, .string ⟨#[114, 101, 102]⟩, .func (.func 57) #[] #[], .nilFunc, .nilFunc, .nilFunc] 54)).c
  go_enter Tryd.func35, Tryd.ntmps35
  go_wp2_with (go_at_call 57; ((with_reducible refine (C _).out.mono ?_); rintro e w1 ⟨rfl, rfl⟩))
  go_ret
  exact ⟨rfl, bAl hb _⟩
theorem at3 (B : Nat) (w : World) : Calls Tryd.prog 58 #[.pointer (some ⟨B, 0, none⟩)] w fun e w' => e = .returned (.pointer (some ⟨B, 5, none⟩)) ∧ w = w' := by
  go_enter Tryd.func58, Tryd.ntmps58
  go_wp2
  go_ret
  exact ⟨rfl, rfl⟩
set_option maxHeartbeats 2000000 in
theorem count3 (o : Ob) (B : Nat) (w : World) (h : AtC w B (obCells o)) : Calls Tryd.prog 67 #[fld3, .pointer (some ⟨B, 0, none⟩)] w fun e w' => e = .returned (.int .i64 (o.lo)) ∧ Below w.heap.size w w' := by
  have hb : Below w.heap.size w w := Below.refl _ _
  have C := fun W => Lib.hid (at3 B W)
  have Nn := fun W => run_neq_func_nil W _ _ _ _ (.func 58) #[] #[] Tryd.underlying50
  have h2 := (h.al (.cells #[.int .u16 8, .string ⟨#[108, 111]⟩, .nilFunc, .func (.func 58) #[] #[], .nilFunc, .nilFunc] 54)).c
  go_enter Tryd.func67, Tryd.ntmps67
  go_wp2_with (go_at_call 58; ((with_reducible refine (C _).out.mono ?_); rintro e w1 ⟨rfl, rfl⟩))
  go_ret
  exact ⟨rfl, bAl hb _⟩
set_option maxHeartbeats 2000000 in
theorem zero3 (o : Ob) (B : Nat) (w : World) (h : AtC w B (obCells o)) : Calls Tryd.prog 35 #[fld3, .pointer (some ⟨B, 0, none⟩)] w fun e w' => e = .returned (.bool (o.lo == 0)) ∧ Below w.heap.size w w' := by
  have hb : Below w.heap.size w w := Below.refl _ _
  have C := Lib.hid (count3 o B _ (h.al (.cells #[.int .u16 8, .string ⟨#[108, 111]⟩, .nilFunc, .func (.func 58) #[] #[], .nilFunc, .nilFunc] 54)))
  have Nw := fun W => run_neq_nil_nil W _ _ _ _ Tryd.underlying49
  generalize o.lo = c at *
  clear h
  go_enter Tryd.func35, Tryd.ntmps35
  go_wp2_with (go_at_call 67; ((with_reducible refine C.out.mono ?_); rintro e w1 ⟨rfl, k1⟩; replace hb := bThen (bAl hb _) k1))
  go_ret
  exact ⟨rfl, hb⟩
theorem at4 (B : Nat) (w : World) : Calls Tryd.prog 59 #[.pointer (some ⟨B, 0, none⟩)] w fun e w' => e = .returned (.pointer (some ⟨B, 6, none⟩)) ∧ w = w' := by
  go_enter Tryd.func59, Tryd.ntmps59
  go_wp2
  go_ret
  exact ⟨rfl, rfl⟩
set_option maxHeartbeats 2000000 in
theorem count4 (o : Ob) (B : Nat) (w : World) (h : AtC w B (obCells o)) : Calls Tryd.prog 67 #[fld4, .pointer (some ⟨B, 0, none⟩)] w fun e w' => e = .returned (.int .i64 (o.hi)) ∧ Below w.heap.size w w' := by
  have hb : Below w.heap.size w w := Below.refl _ _
  have C := fun W => Lib.hid (at4 B W)
  have Nn := fun W => run_neq_func_nil W _ _ _ _ (.func 59) #[] #[] Tryd.underlying50
  have h2 := (h.al (.cells #[.int .u16 16, .string ⟨#[104, 105]⟩, .nilFunc, .func (.func 59) #[] #[], .nilFunc, .nilFunc] 54)).c
  go_enter Tryd.func67, Tryd.ntmps67
  go_wp2_with (go_at_call 59; ((with_reducible refine (C _).out.mono ?_); rintro e w1 ⟨rfl, rfl⟩))
  go_ret
  exact ⟨rfl, bAl hb _⟩
set_option maxHeartbeats 2000000 in
theorem zero4 (o : Ob) (B : Nat) (w : World) (h : AtC w B (obCells o)) : Calls Tryd.prog 35 #[fld4, .pointer (some ⟨B, 0, none⟩)] w fun e w' => e = .returned (.bool (o.hi == 0)) ∧ Below w.heap.size w w' := by
  have hb : Below w.heap.size w w := Below.refl _ _
  have C := Lib.hid (count4 o B _ (h.al (.cells #[.int .u16 16, .string ⟨#[104, 105]⟩, .nilFunc, .func (.func 59) #[] #[], .nilFunc, .nilFunc] 54)))
  have Nw := fun W => run_neq_nil_nil W _ _ _ _ Tryd.underlying49
  generalize o.hi = c at *
  clear h
  go_enter Tryd.func35, Tryd.ntmps35
  go_wp2_with (go_at_call 67; ((with_reducible refine C.out.mono ?_); rintro e w1 ⟨rfl, k1⟩; replace hb := bThen (bAl hb _) k1))
  go_ret
  exact ⟨rfl, hb⟩
theorem at5 (B : Nat) (w : World) : Calls Tryd.prog 60 #[.pointer (some ⟨B, 0, none⟩)] w fun e w' => e = .returned (.pointer (some ⟨B, 7, none⟩)) ∧ w = w' := by
  go_enter Tryd.func60, Tryd.ntmps60
  go_wp2
  go_ret
  exact ⟨rfl, rfl⟩
set_option maxHeartbeats 2000000 in
theorem count5 (o : Ob) (B : Nat) (w : World) (h : AtC w B (obCells o)) (hk : o.digits ≤ 255) : Calls Tryd.prog 67 #[fld5, .pointer (some ⟨B, 0, none⟩)] w fun e w' => e = .returned (.int .i64 ((o.digits : Int))) ∧ Below w.heap.size w w' := by
  have hb : Below w.heap.size w w := Below.refl _ _
  have C := fun W => Lib.hid (at5 B W)
  have Nn := fun W => run_neq_nil_nil W _ _ _ _ Tryd.underlying50
  have Ns := fun W => run_neq_func_nil W _ _ _ _ (.func 60) #[] #[] Tryd.underlying51
  have h2 := (h.al (.cells #[.int .u16 32, .string ⟨#[100, 105, 103, 105, 116, 115]⟩, .nilFunc, .nilFunc, .func (.func 60) #[] #[], .nilFunc] 54)).c
  go_enter Tryd.func67, Tryd.ntmps67
  go_wp2_with (go_at_call 60; ((with_reducible refine (C _).out.mono ?_); rintro e w1 ⟨rfl, rfl⟩))
  go_ret
  exact ⟨rfl, bAl hb _⟩
set_option maxHeartbeats 2000000 in
theorem zero5 (o : Ob) (B : Nat) (w : World) (h : AtC w B (obCells o)) (hk : o.digits ≤ 255) : Calls Tryd.prog 35 #[fld5, .pointer (some ⟨B, 0, none⟩)] w fun e w' => e = .returned (.bool ((o.digits : Int) == 0)) ∧ Below w.heap.size w w' := by
  have hb : Below w.heap.size w w := Below.refl _ _
  have C := Lib.hid (count5 o B _ (h.al (.cells #[.int .u16 32, .string ⟨#[100, 105, 103, 105, 116, 115]⟩, .nilFunc, .nilFunc, .func (.func 60) #[] #[], .nilFunc] 54)) hk)
  have Nw := fun W => run_neq_nil_nil W _ _ _ _ Tryd.underlying49
  generalize (o.digits : Int) = c at *
  clear h
  go_enter Tryd.func35, Tryd.ntmps35
  go_wp2_with (go_at_call 67; ((with_reducible refine C.out.mono ?_); rintro e w1 ⟨rfl, k1⟩; replace hb := bThen (bAl hb _) k1))
  go_ret
  exact ⟨rfl, hb⟩
theorem at6 (B : Nat) (w : World) : Calls Tryd.prog 61 #[.pointer (some ⟨B, 0, none⟩)] w fun e w' => e = .returned (.pointer (some ⟨B, 8, none⟩)) ∧ w = w' := by
  go_enter Tryd.func61, Tryd.ntmps61
  go_wp2
  go_ret
  exact ⟨rfl, rfl⟩
set_option maxHeartbeats 2000000 in
theorem count6 (o : Ob) (B : Nat) (w : World) (h : AtC w B (obCells o)) : Calls Tryd.prog 67 #[fld6, .pointer (some ⟨B, 0, none⟩)] w fun e w' => e = .returned (.int .i64 (boolI o.on)) ∧ Below w.heap.size w w' := by
  have hb : Below w.heap.size w w := Below.refl _ _
  have C := fun W => Lib.hid (at6 B W)
  have Nn := fun W => run_neq_nil_nil W _ _ _ _ Tryd.underlying50
  have Ns := fun W => run_neq_nil_nil W _ _ _ _ Tryd.underlying51
  have h2 := (h.al (.cells #[.int .u16 64, .string ⟨#[111, 110]⟩, .nilFunc, .nilFunc, .nilFunc, .func (.func 61) #[] #[]] 54)).c
  rcases o with ⟨xh, xk, xp, xt, xr, xlo, xhi, xd, xon, xhas, xv, xlw, xhg, xa⟩
  cases xon
  all_goals
    go_enter Tryd.func67, Tryd.ntmps67
    go_wp2_with (go_at_call 61; ((with_reducible refine (C _).out.mono ?_); rintro e w1 ⟨rfl, rfl⟩))
    go_ret
    exact ⟨rfl, bAl hb _⟩
set_option maxHeartbeats 2000000 in
theorem zero6 (o : Ob) (B : Nat) (w : World) (h : AtC w B (obCells o)) : Calls Tryd.prog 35 #[fld6, .pointer (some ⟨B, 0, none⟩)] w fun e w' => e = .returned (.bool (boolI o.on == 0)) ∧ Below w.heap.size w w' := by
  have hb : Below w.heap.size w w := Below.refl _ _
  have C := Lib.hid (count6 o B _ (h.al (.cells #[.int .u16 64, .string ⟨#[111, 110]⟩, .nilFunc, .nilFunc, .nilFunc, .func (.func 61) #[] #[]] 54)))
  have Nw := fun W => run_neq_nil_nil W _ _ _ _ Tryd.underlying49
  generalize boolI o.on = c at *
  clear h
  go_enter Tryd.func35, Tryd.ntmps35
  go_wp2_with (go_at_call 67; ((with_reducible refine C.out.mono ?_); rintro e w1 ⟨rfl, k1⟩; replace hb := bThen (bAl hb _) k1))
  go_ret
  exact ⟨rfl, hb⟩
theorem at7 (B : Nat) (w : World) : Calls Tryd.prog 62 #[.pointer (some ⟨B, 0, none⟩)] w fun e w' => e = .returned (.pointer (some ⟨B, 9, none⟩)) ∧ w = w' := by
  go_enter Tryd.func62, Tryd.ntmps62
  go_wp2
  go_ret
  exact ⟨rfl, rfl⟩
set_option maxHeartbeats 2000000 in
theorem count7 (o : Ob) (B : Nat) (w : World) (h : AtC w B (obCells o)) : Calls Tryd.prog 67 #[fld7, .pointer (some ⟨B, 0, none⟩)] w fun e w' => e = .returned (.int .i64 (boolI o.has)) ∧ Below w.heap.size w w' := by
  have hb : Below w.heap.size w w := Below.refl _ _
  have C := fun W => Lib.hid (at7 B W)
  have Nn := fun W => run_neq_nil_nil W _ _ _ _ Tryd.underlying50
  have Ns := fun W => run_neq_nil_nil W _ _ _ _ Tryd.underlying51
  have h2 := (h.al (.cells #[.int .u16 128, .string ⟨#[104, 97, 115]⟩, .nilFunc, .nilFunc, .nilFunc, .func (.func 62) #[] #[]] 54)).c
  rcases o with ⟨xh, xk, xp, xt, xr, xlo, xhi, xd, xon, xhas, xv, xlw, xhg, xa⟩
  cases xhas
  all_goals
    go_enter Tryd.func67, Tryd.ntmps67
    go_wp2_with (go_at_call 62; ((with_reducible refine (C _).out.mono ?_); rintro e w1 ⟨rfl, rfl⟩))
    go_ret
    exact ⟨rfl, bAl hb _⟩
set_option maxHeartbeats 2000000 in
theorem zero7 (o : Ob) (B : Nat) (w : World) (h : AtC w B (obCells o)) : Calls Tryd.prog 35 #[fld7, .pointer (some ⟨B, 0, none⟩)] w fun e w' => e = .returned (.bool (boolI o.has == 0)) ∧ Below w.heap.size w w' := by
  have hb : Below w.heap.size w w := Below.refl _ _
  have C := Lib.hid (count7 o B _ (h.al (.cells #[.int .u16 128, .string ⟨#[104, 97, 115]⟩, .nilFunc, .nilFunc, .nilFunc, .func (.func 62) #[] #[]] 54)))
  have Nw := fun W => run_neq_nil_nil W _ _ _ _ Tryd.underlying49
  generalize boolI o.has = c at *
  clear h
  go_enter Tryd.func35, Tryd.ntmps35
  go_wp2_with (go_at_call 67; ((with_reducible refine C.out.mono ?_); rintro e w1 ⟨rfl, k1⟩; replace hb := bThen (bAl hb _) k1))
  go_ret
  exact ⟨rfl, hb⟩
theorem at8 (B : Nat) (w : World) : Calls Tryd.prog 63 #[.pointer (some ⟨B, 0, none⟩)] w fun e w' => e = .returned (.pointer (some ⟨B, 10, none⟩)) ∧ w = w' := by
  go_enter Tryd.func63, Tryd.ntmps63
  go_wp2
  go_ret
  exact ⟨rfl, rfl⟩
set_option maxHeartbeats 2000000 in
theorem count8 (o : Ob) (B : Nat) (w : World) (h : AtC w B (obCells o)) : Calls Tryd.prog 67 #[fld8, .pointer (some ⟨B, 0, none⟩)] w fun e w' => e = .returned (.int .i64 (o.value)) ∧ Below w.heap.size w w' := by
  have hb : Below w.heap.size w w := Below.refl _ _
  have C := fun W => Lib.hid (at8 B W)
  have Nn := fun W => run_neq_func_nil W _ _ _ _ (.func 63) #[] #[] Tryd.underlying50
  have h2 := (h.al (.cells #[.int .u16 256, .string ⟨#[118, 97, 108, 117, 101]⟩, .nilFunc, .func (.func 63) #[] #[], .nilFunc, .nilFunc] 54)).c
  go_enter Tryd.func67, Tryd.ntmps67
  go_wp2_with (go_at_call 63; ((with_reducible refine (C _).out.mono ?_); rintro e w1 ⟨rfl, rfl⟩))
  go_ret
  exact ⟨rfl, bAl hb _⟩
set_option maxHeartbeats 2000000 in
theorem zero8 (o : Ob) (B : Nat) (w : World) (h : AtC w B (obCells o)) : Calls Tryd.prog 35 #[fld8, .pointer (some ⟨B, 0, none⟩)] w fun e w' => e = .returned (.bool (o.value == 0)) ∧ Below w.heap.size w w' := by
  have hb : Below w.heap.size w w := Below.refl _ _
  have C := Lib.hid (count8 o B _ (h.al (.cells #[.int .u16 256, .string ⟨#[118, 97, 108, 117, 101]⟩, .nilFunc, .func (.func 63) #[] #[], .nilFunc, .nilFunc] 54)))
  have Nw := fun W => run_neq_nil_nil W _ _ _ _ Tryd.underlying49
  generalize o.value = c at *
  clear h
  go_enter Tryd.func35, Tryd.ntmps35
  go_wp2_with (go_at_call 67; ((with_reducible refine C.out.mono ?_); rintro e w1 ⟨rfl, k1⟩; replace hb := bThen (bAl hb _) k1))
  go_ret
  exact ⟨rfl, hb⟩
theorem at9 (B : Nat) (w : World) : Calls Tryd.prog 64 #[.pointer (some ⟨B, 0, none⟩)] w fun e w' => e = .returned (.pointer (some ⟨B, 11, none⟩)) ∧ w = w' := by
  go_enter Tryd.func64, Tryd.ntmps64
  go_wp2
  go_ret
  exact ⟨rfl, rfl⟩
set_option maxHeartbeats 2000000 in
theorem count9 (o : Ob) (B : Nat) (w : World) (h : AtC w B (obCells o)) : Calls Tryd.prog 67 #[fld9, .pointer (some ⟨B, 0, none⟩)] w fun e w' => e = .returned (.int .i64 (o.low)) ∧ Below w.heap.size w w' := by
  have hb : Below w.heap.size w w := Below.refl _ _
  have C := fun W => Lib.hid (at9 B W)
  have Nn := fun W => run_neq_func_nil W _ _ _ _ (.func 64) #[] #[] Tryd.underlying50
  have h2 := (h.al (.cells #[.int .u16 512, .string ⟨#[108, 111, 119]⟩, .nilFunc, .func (.func 64) #[] #[], .nilFunc, .nilFunc] 54)).c
  go_enter Tryd.func67, Tryd.ntmps67
  go_wp2_with (go_at_call 64; ((with_reducible refine (C _).out.mono ?_); rintro e w1 ⟨rfl, rfl⟩))
  go_ret
  exact ⟨rfl, bAl hb _⟩
set_option maxHeartbeats 2000000 in
theorem zero9 (o : Ob) (B : Nat) (w : World) (h : AtC w B (obCells o)) : Calls Tryd.prog 35 #[fld9, .pointer (some ⟨B, 0, none⟩)] w fun e w' => e = .returned (.bool (o.low == 0)) ∧ Below w.heap.size w w' := by
  have hb : Below w.heap.size w w := Below.refl _ _
  have C := Lib.hid (count9 o B _ (h.al (.cells #[.int .u16 512, .string ⟨#[108, 111, 119]⟩, .nilFunc, .func (.func 64) #[] #[], .nilFunc, .nilFunc] 54)))
  have Nw := fun W => run_neq_nil_nil W _ _ _ _ Tryd.underlying49
  generalize o.low = c at *
  clear h
  go_enter Tryd.func35, Tryd.ntmps35
  go_wp2_with (go_at_call 67; ((with_reducible refine C.out.mono ?_); rintro e w1 ⟨rfl, k1⟩; replace hb := bThen (bAl hb _) k1))
  go_ret
  exact ⟨rfl, hb⟩
theorem at10 (B : Nat) (w : World) : Calls Tryd.prog 65 #[.pointer (some ⟨B, 0, none⟩)] w fun e w' => e = .returned (.pointer (some ⟨B, 12, none⟩)) ∧ w = w' := by
  go_enter Tryd.func65, Tryd.ntmps65
  go_wp2
  go_ret
  exact ⟨rfl, rfl⟩
set_option maxHeartbeats 2000000 in
theorem count10 (o : Ob) (B : Nat) (w : World) (h : AtC w B (obCells o)) : Calls Tryd.prog 67 #[fld10, .pointer (some ⟨B, 0, none⟩)] w fun e w' => e = .returned (.int .i64 (o.high)) ∧ Below w.heap.size w w' := by
  have hb : Below w.heap.size w w := Below.refl _ _
  have C := fun W => Lib.hid (at10 B W)
  have Nn := fun W => run_neq_func_nil W _ _ _ _ (.func 65) #[] #[] Tryd.underlying50
  have h2 := (h.al (.cells #[.int .u16 1024, .string ⟨#[104, 105, 103, 104]⟩, .nilFunc, .func (.func 65) #[] #[], .nilFunc, .nilFunc] 54)).c
  go_enter Tryd.func67, Tryd.ntmps67
  go_wp2_with (go_at_call 65; ((with_reducible refine (C _).out.mono ?_); rintro e w1 ⟨rfl, rfl⟩))
  go_ret
  exact ⟨rfl, bAl hb _⟩
set_option maxHeartbeats 2000000 in
theorem zero10 (o : Ob) (B : Nat) (w : World) (h : AtC w B (obCells o)) : Calls Tryd.prog 35 #[fld10, .pointer (some ⟨B, 0, none⟩)] w fun e w' => e = .returned (.bool (o.high == 0)) ∧ Below w.heap.size w w' := by
  have hb : Below w.heap.size w w := Below.refl _ _
  have C := Lib.hid (count10 o B _ (h.al (.cells #[.int .u16 1024, .string ⟨#[104, 105, 103, 104]⟩, .nilFunc, .func (.func 65) #[] #[], .nilFunc, .nilFunc] 54)))
  have Nw := fun W => run_neq_nil_nil W _ _ _ _ Tryd.underlying49
  generalize o.high = c at *
  clear h
  go_enter Tryd.func35, Tryd.ntmps35
  go_wp2_with (go_at_call 67; ((with_reducible refine C.out.mono ?_); rintro e w1 ⟨rfl, k1⟩; replace hb := bThen (bAl hb _) k1))
  go_ret
  exact ⟨rfl, hb⟩
theorem at11 (B : Nat) (w : World) : Calls Tryd.prog 66 #[.pointer (some ⟨B, 0, none⟩)] w fun e w' => e = .returned (.pointer (some ⟨B, 13, none⟩)) ∧ w = w' := by
  go_enter Tryd.func66, Tryd.ntmps66
  go_wp2
  go_ret
  exact ⟨rfl, rfl⟩
set_option maxHeartbeats 2000000 in
theorem count11 (o : Ob) (B : Nat) (w : World) (h : AtC w B (obCells o)) (hk : o.assoc ≤ 255) : Calls Tryd.prog 67 #[fld11, .pointer (some ⟨B, 0, none⟩)] w fun e w' => e = .returned (.int .i64 ((o.assoc : Int))) ∧ Below w.heap.size w w' := by
  have hb : Below w.heap.size w w := Below.refl _ _
  have C := fun W => Lib.hid (at11 B W)
  have Nn := fun W => run_neq_nil_nil W _ _ _ _ Tryd.underlying50
  have Ns := fun W => run_neq_func_nil W _ _ _ _ (.func 66) #[] #[] Tryd.underlying51
  have h2 := (h.al (.cells #[.int .u16 2048, .string ⟨#[97, 115, 115, 111, 99]⟩, .nilFunc, .nilFunc, .func (.func 66) #[] #[], .nilFunc] 54)).c
  go_enter Tryd.func67, Tryd.ntmps67
  go_wp2_with (go_at_call 66; ((with_reducible refine (C _).out.mono ?_); rintro e w1 ⟨rfl, rfl⟩))
  go_ret
  exact ⟨rfl, bAl hb _⟩
set_option maxHeartbeats 2000000 in
theorem zero11 (o : Ob) (B : Nat) (w : World) (h : AtC w B (obCells o)) (hk : o.assoc ≤ 255) : Calls Tryd.prog 35 #[fld11, .pointer (some ⟨B, 0, none⟩)] w fun e w' => e = .returned (.bool ((o.assoc : Int) == 0)) ∧ Below w.heap.size w w' := by
  have hb : Below w.heap.size w w := Below.refl _ _
  have C := Lib.hid (count11 o B _ (h.al (.cells #[.int .u16 2048, .string ⟨#[97, 115, 115, 111, 99]⟩, .nilFunc, .nilFunc, .func (.func 66) #[] #[], .nilFunc] 54)) hk)
  have Nw := fun W => run_neq_nil_nil W _ _ _ _ Tryd.underlying49
  generalize (o.assoc : Int) = c at *
  clear h
  go_enter Tryd.func35, Tryd.ntmps35
  go_wp2_with (go_at_call 67; ((with_reducible refine C.out.mono ?_); rintro e w1 ⟨rfl, k1⟩; replace hb := bThen (bAl hb _) k1))
  go_ret
  exact ⟨rfl, hb⟩
end Go.Proofs.YtljgokdhdbgdbaaDoor
