/-
  WALKS: a field of the list: where it stands in an object; its count; whether it is zero.
-/
import Derived.Test.YtmhilhdmbbdnaaaDoorOFields
namespace Go.Proofs.YtmhilhdmbbdnaaaDoor
open Go.RowKit
set_option maxRecDepth 100000
set_option linter.unusedVariables false

theorem run_equalIn_func_nil {P : Program} (d : Nat) (w : World) (t : TypeId) (ps rs : Array TypeId) (va : Bool) (f : Fn) (a c : Array Value) (h : P.underlying t = some (.func ps rs va)) : (Op.equalIn (d + 1) t (.func f a c) .nilFunc).run P w = .ok false w := by simp [Op.equalIn, run_underlying h]
theorem run_equalIn_nil_nil {P : Program} (d : Nat) (w : World) (t : TypeId) (ps rs : Array TypeId) (va : Bool) (h : P.underlying t = some (.func ps rs va)) : (Op.equalIn (d + 1) t .nilFunc .nilFunc).run P w = .ok true w := by simp [Op.equalIn, run_underlying h]
theorem run_neq_func_nil {P : Program} (w : World) (t : TypeId) (ps rs : Array TypeId) (va : Bool) (f : Fn) (a c : Array Value) (h : P.underlying t = some (.func ps rs va)) : (binOp .neq t (.func f a c) .nilFunc).run P w = .ok (.bool true) w := by
  have e : (Op.equal t (.func f a c) .nilFunc).run P w = .ok false w := run_equalIn_func_nil 9999 w t ps rs va f a c h
  simp only [binOp]
  simp [e]
theorem run_neq_nil_nil {P : Program} (w : World) (t : TypeId) (ps rs : Array TypeId) (va : Bool) (h : P.underlying t = some (.func ps rs va)) : (binOp .neq t .nilFunc .nilFunc).run P w = .ok (.bool false) w := by
  have e : (Op.equal t .nilFunc .nilFunc).run P w = .ok true w := run_equalIn_nil_nil 9999 w t ps rs va h
  simp only [binOp]
  simp [e]
def boolI (b : Bool) : Int := if b then 1 else 0

theorem at0 (B : Nat) (w : World) : Calls Tryd.prog 88 #[.pointer (some ⟨B, 0, none⟩)] w fun e w' => e = .returned (.pointer (some ⟨B, 2, none⟩)) ∧ w = w' := by
  go_enter Tryd.func88, Tryd.ntmps88
  go_wp2
  go_ret
  exact ⟨rfl, rfl⟩
set_option maxHeartbeats 2000000 in
theorem zero0 (o : Ob) (B : Nat) (w : World) (h : AtC w B (obCells o)) : Calls Tryd.prog 80 #[fld0, .pointer (some ⟨B, 0, none⟩)] w fun e w' => e = .returned (.bool (o.parent.toList.isEmpty)) ∧ Below w.heap.size w w' := by
  have hb : Below w.heap.size w w := Below.refl _ _
  have C := fun W => Lib.hid (at0 B W)
  have Nw := fun W => run_neq_func_nil W _ _ _ _ (.func 88) #[] #[] Tryd.underlying84
  have h2 := (h.al (.cells #[.int .u16 1, .string ⟨#[112, 97, 114, 101, 110, 116]⟩, .func (.func 88) #[] #[], .nilFunc, .nilFunc, .nilFunc] 89)).c
  go_enter Tryd.func80, Tryd.ntmps80
  go_wp2_with (go_at_call 88; ((with_reducible refine (C _).out.mono ?_); rintro e w1 ⟨rfl, rfl⟩))
  go_ret
  exact ⟨rfl, bAl hb _⟩
theorem at1 (B : Nat) (w : World) : Calls Tryd.prog 89 #[.pointer (some ⟨B, 0, none⟩)] w fun e w' => e = .returned (.pointer (some ⟨B, 3, none⟩)) ∧ w = w' := by
  go_enter Tryd.func89, Tryd.ntmps89
  go_wp2
  go_ret
  exact ⟨rfl, rfl⟩
set_option maxHeartbeats 2000000 in
theorem count1 (o : Ob) (B : Nat) (w : World) (h : AtC w B (obCells o)) (hk : o.typ ≤ 255) : Calls Tryd.prog 100 #[fld1, .pointer (some ⟨B, 0, none⟩)] w fun e w' => e = .returned (.int .i64 ((o.typ : Int))) ∧ Below w.heap.size w w' := by
  have hb : Below w.heap.size w w := Below.refl _ _
  have C := fun W => Lib.hid (at1 B W)
  have Nn := fun W => run_neq_nil_nil W _ _ _ _ Tryd.underlying85
  have Ns := fun W => run_neq_func_nil W _ _ _ _ (.func 89) #[] #[] Tryd.underlying86
  have h2 := (h.al (.cells #[.int .u16 2, .string ⟨#[116, 121, 112, 101]⟩, .nilFunc, .nilFunc, .func (.func 89) #[] #[], .nilFunc] 89)).c
  go_enter Tryd.func100, Tryd.ntmps100
  go_wp2_with (go_at_call 89; ((with_reducible refine (C _).out.mono ?_); rintro e w1 ⟨rfl, rfl⟩))
  go_ret
  exact ⟨rfl, bAl hb _⟩
set_option maxHeartbeats 2000000 in
theorem zero1 (o : Ob) (B : Nat) (w : World) (h : AtC w B (obCells o)) (hk : o.typ ≤ 255) : Calls Tryd.prog 80 #[fld1, .pointer (some ⟨B, 0, none⟩)] w fun e w' => e = .returned (.bool ((o.typ : Int) == 0)) ∧ Below w.heap.size w w' := by
  have hb : Below w.heap.size w w := Below.refl _ _
  have C := Lib.hid (count1 o B _ (h.al (.cells #[.int .u16 2, .string ⟨#[116, 121, 112, 101]⟩, .nilFunc, .nilFunc, .func (.func 89) #[] #[], .nilFunc] 89)) hk)
  have Nw := fun W => run_neq_nil_nil W _ _ _ _ Tryd.underlying84
  generalize (o.typ : Int) = c at *
  clear h
  go_enter Tryd.func80, Tryd.ntmps80
  go_wp2_with (go_at_call 100; ((with_reducible refine C.out.mono ?_); rintro e w1 ⟨rfl, k1⟩; replace hb := bThen (bAl hb _) k1))
  go_ret
  exact ⟨rfl, hb⟩
theorem at2 (B : Nat) (w : World) : Calls Tryd.prog 90 #[.pointer (some ⟨B, 0, none⟩)] w fun e w' => e = .returned (.pointer (some ⟨B, 4, none⟩)) ∧ w = w' := by
  go_enter Tryd.func90, Tryd.ntmps90
  go_wp2
  go_ret
  exact ⟨rfl, rfl⟩
set_option maxHeartbeats 2000000 in
theorem zero2 (o : Ob) (B : Nat) (w : World) (h : AtC w B (obCells o)) : Calls Tryd.prog 80 #[fld2, .pointer (some ⟨B, 0, none⟩)] w fun e w' => e = .returned (.bool (o.ref.toList.isEmpty)) ∧ Below w.heap.size w w' := by
  have hb : Below w.heap.size w w := Below.refl _ _
  have C := fun W => Lib.hid (at2 B W)
  have Nw := fun W => run_neq_func_nil W _ _ _ _ (.func 90) #[] #[] Tryd.underlying84
  have h2 := (h.al (.cells #[.int .u16 4, .string ⟨#[114, 101, 102]⟩, .func (.func 90) #[] #[], .nilFunc, .nilFunc, .nilFunc] 89)).c
  go_enter Tryd.func80, Tryd.ntmps80
  go_wp2_with (go_at_call 90; ((with_reducible refine (C _).out.mono ?_); rintro e w1 ⟨rfl, rfl⟩))
  go_ret
  exact ⟨rfl, bAl hb _⟩
theorem at3 (B : Nat) (w : World) : Calls Tryd.prog 91 #[.pointer (some ⟨B, 0, none⟩)] w fun e w' => e = .returned (.pointer (some ⟨B, 5, none⟩)) ∧ w = w' := by
  go_enter Tryd.func91, Tryd.ntmps91
  go_wp2
  go_ret
  exact ⟨rfl, rfl⟩
set_option maxHeartbeats 2000000 in
theorem count3 (o : Ob) (B : Nat) (w : World) (h : AtC w B (obCells o)) : Calls Tryd.prog 100 #[fld3, .pointer (some ⟨B, 0, none⟩)] w fun e w' => e = .returned (.int .i64 (o.lo)) ∧ Below w.heap.size w w' := by
  have hb : Below w.heap.size w w := Below.refl _ _
  have C := fun W => Lib.hid (at3 B W)
  have Nn := fun W => run_neq_func_nil W _ _ _ _ (.func 91) #[] #[] Tryd.underlying85
  have h2 := (h.al (.cells #[.int .u16 8, .string ⟨#[108, 111]⟩, .nilFunc, .func (.func 91) #[] #[], .nilFunc, .nilFunc] 89)).c
  go_enter Tryd.func100, Tryd.ntmps100
  go_wp2_with (go_at_call 91; ((with_reducible refine (C _).out.mono ?_); rintro e w1 ⟨rfl, rfl⟩))
  go_ret
  exact ⟨rfl, bAl hb _⟩
set_option maxHeartbeats 2000000 in
theorem zero3 (o : Ob) (B : Nat) (w : World) (h : AtC w B (obCells o)) : Calls Tryd.prog 80 #[fld3, .pointer (some ⟨B, 0, none⟩)] w fun e w' => e = .returned (.bool (o.lo == 0)) ∧ Below w.heap.size w w' := by
  have hb : Below w.heap.size w w := Below.refl _ _
  have C := Lib.hid (count3 o B _ (h.al (.cells #[.int .u16 8, .string ⟨#[108, 111]⟩, .nilFunc, .func (.func 91) #[] #[], .nilFunc, .nilFunc] 89)))
  have Nw := fun W => run_neq_nil_nil W _ _ _ _ Tryd.underlying84
  generalize o.lo = c at *
  clear h
  go_enter Tryd.func80, Tryd.ntmps80
  go_wp2_with (go_at_call 100; ((with_reducible refine C.out.mono ?_); rintro e w1 ⟨rfl, k1⟩; replace hb := bThen (bAl hb _) k1))
  go_ret
  exact ⟨rfl, hb⟩
theorem at4 (B : Nat) (w : World) : Calls Tryd.prog 92 #[.pointer (some ⟨B, 0, none⟩)] w fun e w' => e = .returned (.pointer (some ⟨B, 6, none⟩)) ∧ w = w' := by
  go_enter Tryd.func92, Tryd.ntmps92
  go_wp2
  go_ret
  exact ⟨rfl, rfl⟩
set_option maxHeartbeats 2000000 in
theorem count4 (o : Ob) (B : Nat) (w : World) (h : AtC w B (obCells o)) : Calls Tryd.prog 100 #[fld4, .pointer (some ⟨B, 0, none⟩)] w fun e w' => e = .returned (.int .i64 (o.hi)) ∧ Below w.heap.size w w' := by
  have hb : Below w.heap.size w w := Below.refl _ _
  have C := fun W => Lib.hid (at4 B W)
  have Nn := fun W => run_neq_func_nil W _ _ _ _ (.func 92) #[] #[] Tryd.underlying85
  have h2 := (h.al (.cells #[.int .u16 16, .string ⟨#[104, 105]⟩, .nilFunc, .func (.func 92) #[] #[], .nilFunc, .nilFunc] 89)).c
  go_enter Tryd.func100, Tryd.ntmps100
  go_wp2_with (go_at_call 92; ((with_reducible refine (C _).out.mono ?_); rintro e w1 ⟨rfl, rfl⟩))
  go_ret
  exact ⟨rfl, bAl hb _⟩
set_option maxHeartbeats 2000000 in
theorem zero4 (o : Ob) (B : Nat) (w : World) (h : AtC w B (obCells o)) : Calls Tryd.prog 80 #[fld4, .pointer (some ⟨B, 0, none⟩)] w fun e w' => e = .returned (.bool (o.hi == 0)) ∧ Below w.heap.size w w' := by
  have hb : Below w.heap.size w w := Below.refl _ _
  have C := Lib.hid (count4 o B _ (h.al (.cells #[.int .u16 16, .string ⟨#[104, 105]⟩, .nilFunc, .func (.func 92) #[] #[], .nilFunc, .nilFunc] 89)))
  have Nw := fun W => run_neq_nil_nil W _ _ _ _ Tryd.underlying84
  generalize o.hi = c at *
  clear h
  go_enter Tryd.func80, Tryd.ntmps80
  go_wp2_with (go_at_call 100; ((with_reducible refine C.out.mono ?_); rintro e w1 ⟨rfl, k1⟩; replace hb := bThen (bAl hb _) k1))
  go_ret
  exact ⟨rfl, hb⟩
theorem at5 (B : Nat) (w : World) : Calls Tryd.prog 93 #[.pointer (some ⟨B, 0, none⟩)] w fun e w' => e = .returned (.pointer (some ⟨B, 7, none⟩)) ∧ w = w' := by
  go_enter Tryd.func93, Tryd.ntmps93
  go_wp2
  go_ret
  exact ⟨rfl, rfl⟩
set_option maxHeartbeats 2000000 in
theorem count5 (o : Ob) (B : Nat) (w : World) (h : AtC w B (obCells o)) (hk : o.digits ≤ 255) : Calls Tryd.prog 100 #[fld5, .pointer (some ⟨B, 0, none⟩)] w fun e w' => e = .returned (.int .i64 ((o.digits : Int))) ∧ Below w.heap.size w w' := by
  have hb : Below w.heap.size w w := Below.refl _ _
  have C := fun W => Lib.hid (at5 B W)
  have Nn := fun W => run_neq_nil_nil W _ _ _ _ Tryd.underlying85
  have Ns := fun W => run_neq_func_nil W _ _ _ _ (.func 93) #[] #[] Tryd.underlying86
  have h2 := (h.al (.cells #[.int .u16 32, .string ⟨#[100, 105, 103, 105, 116, 115]⟩, .nilFunc, .nilFunc, .func (.func 93) #[] #[], .nilFunc] 89)).c
  go_enter Tryd.func100, Tryd.ntmps100
  go_wp2_with (go_at_call 93; ((with_reducible refine (C _).out.mono ?_); rintro e w1 ⟨rfl, rfl⟩))
  go_ret
  exact ⟨rfl, bAl hb _⟩
set_option maxHeartbeats 2000000 in
theorem zero5 (o : Ob) (B : Nat) (w : World) (h : AtC w B (obCells o)) (hk : o.digits ≤ 255) : Calls Tryd.prog 80 #[fld5, .pointer (some ⟨B, 0, none⟩)] w fun e w' => e = .returned (.bool ((o.digits : Int) == 0)) ∧ Below w.heap.size w w' := by
  have hb : Below w.heap.size w w := Below.refl _ _
  have C := Lib.hid (count5 o B _ (h.al (.cells #[.int .u16 32, .string ⟨#[100, 105, 103, 105, 116, 115]⟩, .nilFunc, .nilFunc, .func (.func 93) #[] #[], .nilFunc] 89)) hk)
  have Nw := fun W => run_neq_nil_nil W _ _ _ _ Tryd.underlying84
  generalize (o.digits : Int) = c at *
  clear h
  go_enter Tryd.func80, Tryd.ntmps80
  go_wp2_with (go_at_call 100; ((with_reducible refine C.out.mono ?_); rintro e w1 ⟨rfl, k1⟩; replace hb := bThen (bAl hb _) k1))
  go_ret
  exact ⟨rfl, hb⟩
theorem at6 (B : Nat) (w : World) : Calls Tryd.prog 94 #[.pointer (some ⟨B, 0, none⟩)] w fun e w' => e = .returned (.pointer (some ⟨B, 8, none⟩)) ∧ w = w' := by
  go_enter Tryd.func94, Tryd.ntmps94
  go_wp2
  go_ret
  exact ⟨rfl, rfl⟩
set_option maxHeartbeats 2000000 in
theorem count6 (o : Ob) (B : Nat) (w : World) (h : AtC w B (obCells o)) : Calls Tryd.prog 100 #[fld6, .pointer (some ⟨B, 0, none⟩)] w fun e w' => e = .returned (.int .i64 (boolI o.on)) ∧ Below w.heap.size w w' := by
  have hb : Below w.heap.size w w := Below.refl _ _
  have C := fun W => Lib.hid (at6 B W)
  have Nn := fun W => run_neq_nil_nil W _ _ _ _ Tryd.underlying85
  have Ns := fun W => run_neq_nil_nil W _ _ _ _ Tryd.underlying86
  have h2 := (h.al (.cells #[.int .u16 64, .string ⟨#[111, 110]⟩, .nilFunc, .nilFunc, .nilFunc, .func (.func 94) #[] #[]] 89)).c
  rcases o with ⟨xh, xk, xp, xt, xr, xlo, xhi, xd, xon, xhas, xv, xlw, xhg, xa⟩
  cases xon
  all_goals
    go_enter Tryd.func100, Tryd.ntmps100
    go_wp2_with (go_at_call 94; ((with_reducible refine (C _).out.mono ?_); rintro e w1 ⟨rfl, rfl⟩))
    go_ret
    exact ⟨rfl, bAl hb _⟩
set_option maxHeartbeats 2000000 in
theorem zero6 (o : Ob) (B : Nat) (w : World) (h : AtC w B (obCells o)) : Calls Tryd.prog 80 #[fld6, .pointer (some ⟨B, 0, none⟩)] w fun e w' => e = .returned (.bool (boolI o.on == 0)) ∧ Below w.heap.size w w' := by
  have hb : Below w.heap.size w w := Below.refl _ _
  have C := Lib.hid (count6 o B _ (h.al (.cells #[.int .u16 64, .string ⟨#[111, 110]⟩, .nilFunc, .nilFunc, .nilFunc, .func (.func 94) #[] #[]] 89)))
  have Nw := fun W => run_neq_nil_nil W _ _ _ _ Tryd.underlying84
  generalize boolI o.on = c at *
  clear h
  go_enter Tryd.func80, Tryd.ntmps80
  go_wp2_with (go_at_call 100; ((with_reducible refine C.out.mono ?_); rintro e w1 ⟨rfl, k1⟩; replace hb := bThen (bAl hb _) k1))
  go_ret
  exact ⟨rfl, hb⟩
theorem at7 (B : Nat) (w : World) : Calls Tryd.prog 95 #[.pointer (some ⟨B, 0, none⟩)] w fun e w' => e = .returned (.pointer (some ⟨B, 9, none⟩)) ∧ w = w' := by
  go_enter Tryd.func95, Tryd.ntmps95
  go_wp2
  go_ret
  exact ⟨rfl, rfl⟩
set_option maxHeartbeats 2000000 in
theorem count7 (o : Ob) (B : Nat) (w : World) (h : AtC w B (obCells o)) : Calls Tryd.prog 100 #[fld7, .pointer (some ⟨B, 0, none⟩)] w fun e w' => e = .returned (.int .i64 (boolI o.has)) ∧ Below w.heap.size w w' := by
  have hb : Below w.heap.size w w := Below.refl _ _
  have C := fun W => Lib.hid (at7 B W)
  have Nn := fun W => run_neq_nil_nil W _ _ _ _ Tryd.underlying85
  have Ns := fun W => run_neq_nil_nil W _ _ _ _ Tryd.underlying86
  have h2 := (h.al (.cells #[.int .u16 128, .string ⟨#[104, 97, 115]⟩, .nilFunc, .nilFunc, .nilFunc, .func (.func 95) #[] #[]] 89)).c
  rcases o with ⟨xh, xk, xp, xt, xr, xlo, xhi, xd, xon, xhas, xv, xlw, xhg, xa⟩
  cases xhas
  all_goals
    go_enter Tryd.func100, Tryd.ntmps100
    go_wp2_with (go_at_call 95; ((with_reducible refine (C _).out.mono ?_); rintro e w1 ⟨rfl, rfl⟩))
    go_ret
    exact ⟨rfl, bAl hb _⟩
set_option maxHeartbeats 2000000 in
theorem zero7 (o : Ob) (B : Nat) (w : World) (h : AtC w B (obCells o)) : Calls Tryd.prog 80 #[fld7, .pointer (some ⟨B, 0, none⟩)] w fun e w' => e = .returned (.bool (boolI o.has == 0)) ∧ Below w.heap.size w w' := by
  have hb : Below w.heap.size w w := Below.refl _ _
  have C := Lib.hid (count7 o B _ (h.al (.cells #[.int .u16 128, .string ⟨#[104, 97, 115]⟩, .nilFunc, .nilFunc, .nilFunc, .func (.func 95) #[] #[]] 89)))
  have Nw := fun W => run_neq_nil_nil W _ _ _ _ Tryd.underlying84
  generalize boolI o.has = c at *
  clear h
  go_enter Tryd.func80, Tryd.ntmps80
  go_wp2_with (go_at_call 100; ((with_reducible refine C.out.mono ?_); rintro e w1 ⟨rfl, k1⟩; replace hb := bThen (bAl hb _) k1))
  go_ret
  exact ⟨rfl, hb⟩
theorem at8 (B : Nat) (w : World) : Calls Tryd.prog 96 #[.pointer (some ⟨B, 0, none⟩)] w fun e w' => e = .returned (.pointer (some ⟨B, 10, none⟩)) ∧ w = w' := by
  go_enter Tryd.func96, Tryd.ntmps96
  go_wp2
  go_ret
  exact ⟨rfl, rfl⟩
set_option maxHeartbeats 2000000 in
theorem count8 (o : Ob) (B : Nat) (w : World) (h : AtC w B (obCells o)) : Calls Tryd.prog 100 #[fld8, .pointer (some ⟨B, 0, none⟩)] w fun e w' => e = .returned (.int .i64 (o.value)) ∧ Below w.heap.size w w' := by
  have hb : Below w.heap.size w w := Below.refl _ _
  have C := fun W => Lib.hid (at8 B W)
  have Nn := fun W => run_neq_func_nil W _ _ _ _ (.func 96) #[] #[] Tryd.underlying85
  have h2 := (h.al (.cells #[.int .u16 256, .string ⟨#[118, 97, 108, 117, 101]⟩, .nilFunc, .func (.func 96) #[] #[], .nilFunc, .nilFunc] 89)).c
  go_enter Tryd.func100, Tryd.ntmps100
  go_wp2_with (go_at_call 96; ((with_reducible refine (C _).out.mono ?_); rintro e w1 ⟨rfl, rfl⟩))
  go_ret
  exact ⟨rfl, bAl hb _⟩
set_option maxHeartbeats 2000000 in
theorem zero8 (o : Ob) (B : Nat) (w : World) (h : AtC w B (obCells o)) : Calls Tryd.prog 80 #[fld8, .pointer (some ⟨B, 0, none⟩)] w fun e w' => e = .returned (.bool (o.value == 0)) ∧ Below w.heap.size w w' := by
  have hb : Below w.heap.size w w := Below.refl _ _
  have C := Lib.hid (count8 o B _ (h.al (.cells #[.int .u16 256, .string ⟨#[118, 97, 108, 117, 101]⟩, .nilFunc, .func (.func 96) #[] #[], .nilFunc, .nilFunc] 89)))
  have Nw := fun W => run_neq_nil_nil W _ _ _ _ Tryd.underlying84
  generalize o.value = c at *
  clear h
  go_enter Tryd.func80, Tryd.ntmps80
  go_wp2_with (go_at_call 100; ((with_reducible refine C.out.mono ?_); rintro e w1 ⟨rfl, k1⟩; replace hb := bThen (bAl hb _) k1))
  go_ret
  exact ⟨rfl, hb⟩
theorem at9 (B : Nat) (w : World) : Calls Tryd.prog 97 #[.pointer (some ⟨B, 0, none⟩)] w fun e w' => e = .returned (.pointer (some ⟨B, 11, none⟩)) ∧ w = w' := by
  go_enter Tryd.func97, Tryd.ntmps97
  go_wp2
  go_ret
  exact ⟨rfl, rfl⟩
set_option maxHeartbeats 2000000 in
theorem count9 (o : Ob) (B : Nat) (w : World) (h : AtC w B (obCells o)) : Calls Tryd.prog 100 #[fld9, .pointer (some ⟨B, 0, none⟩)] w fun e w' => e = .returned (.int .i64 (o.low)) ∧ Below w.heap.size w w' := by
  have hb : Below w.heap.size w w := Below.refl _ _
  have C := fun W => Lib.hid (at9 B W)
  have Nn := fun W => run_neq_func_nil W _ _ _ _ (.func 97) #[] #[] Tryd.underlying85
  have h2 := (h.al (.cells #[.int .u16 512, .string ⟨#[108, 111, 119]⟩, .nilFunc, .func (.func 97) #[] #[], .nilFunc, .nilFunc] 89)).c
  go_enter Tryd.func100, Tryd.ntmps100
  go_wp2_with (go_at_call 97; ((with_reducible refine (C _).out.mono ?_); rintro e w1 ⟨rfl, rfl⟩))
  go_ret
  exact ⟨rfl, bAl hb _⟩
set_option maxHeartbeats 2000000 in
theorem zero9 (o : Ob) (B : Nat) (w : World) (h : AtC w B (obCells o)) : Calls Tryd.prog 80 #[fld9, .pointer (some ⟨B, 0, none⟩)] w fun e w' => e = .returned (.bool (o.low == 0)) ∧ Below w.heap.size w w' := by
  have hb : Below w.heap.size w w := Below.refl _ _
  have C := Lib.hid (count9 o B _ (h.al (.cells #[.int .u16 512, .string ⟨#[108, 111, 119]⟩, .nilFunc, .func (.func 97) #[] #[], .nilFunc, .nilFunc] 89)))
  have Nw := fun W => run_neq_nil_nil W _ _ _ _ Tryd.underlying84
  generalize o.low = c at *
  clear h
  go_enter Tryd.func80, Tryd.ntmps80
  go_wp2_with (go_at_call 100; ((with_reducible refine C.out.mono ?_); rintro e w1 ⟨rfl, k1⟩; replace hb := bThen (bAl hb _) k1))
  go_ret
  exact ⟨rfl, hb⟩
theorem at10 (B : Nat) (w : World) : Calls Tryd.prog 98 #[.pointer (some ⟨B, 0, none⟩)] w fun e w' => e = .returned (.pointer (some ⟨B, 12, none⟩)) ∧ w = w' := by
  go_enter Tryd.func98, Tryd.ntmps98
  go_wp2
  go_ret
  exact ⟨rfl, rfl⟩
set_option maxHeartbeats 2000000 in
theorem count10 (o : Ob) (B : Nat) (w : World) (h : AtC w B (obCells o)) : Calls Tryd.prog 100 #[fld10, .pointer (some ⟨B, 0, none⟩)] w fun e w' => e = .returned (.int .i64 (o.high)) ∧ Below w.heap.size w w' := by
  have hb : Below w.heap.size w w := Below.refl _ _
  have C := fun W => Lib.hid (at10 B W)
  have Nn := fun W => run_neq_func_nil W _ _ _ _ (.func 98) #[] #[] Tryd.underlying85
  have h2 := (h.al (.cells #[.int .u16 1024, .string ⟨#[104, 105, 103, 104]⟩, .nilFunc, .func (.func 98) #[] #[], .nilFunc, .nilFunc] 89)).c
  go_enter Tryd.func100, Tryd.ntmps100
  go_wp2_with (go_at_call 98; ((with_reducible refine (C _).out.mono ?_); rintro e w1 ⟨rfl, rfl⟩))
  go_ret
  exact ⟨rfl, bAl hb _⟩
set_option maxHeartbeats 2000000 in
theorem zero10 (o : Ob) (B : Nat) (w : World) (h : AtC w B (obCells o)) : Calls Tryd.prog 80 #[fld10, .pointer (some ⟨B, 0, none⟩)] w fun e w' => e = .returned (.bool (o.high == 0)) ∧ Below w.heap.size w w' := by
  have hb : Below w.heap.size w w := Below.refl _ _
  have C := Lib.hid (count10 o B _ (h.al (.cells #[.int .u16 1024, .string ⟨#[104, 105, 103, 104]⟩, .nilFunc, .func (.func 98) #[] #[], .nilFunc, .nilFunc] 89)))
  have Nw := fun W => run_neq_nil_nil W _ _ _ _ Tryd.underlying84
  generalize o.high = c at *
  clear h
  go_enter Tryd.func80, Tryd.ntmps80
  go_wp2_with (go_at_call 100; ((with_reducible refine C.out.mono ?_); rintro e w1 ⟨rfl, k1⟩; replace hb := bThen (bAl hb _) k1))
  go_ret
  exact ⟨rfl, hb⟩
theorem at11 (B : Nat) (w : World) : Calls Tryd.prog 99 #[.pointer (some ⟨B, 0, none⟩)] w fun e w' => e = .returned (.pointer (some ⟨B, 13, none⟩)) ∧ w = w' := by
  go_enter Tryd.func99, Tryd.ntmps99
  go_wp2
  go_ret
  exact ⟨rfl, rfl⟩
set_option maxHeartbeats 2000000 in
theorem count11 (o : Ob) (B : Nat) (w : World) (h : AtC w B (obCells o)) (hk : o.assoc ≤ 255) : Calls Tryd.prog 100 #[fld11, .pointer (some ⟨B, 0, none⟩)] w fun e w' => e = .returned (.int .i64 ((o.assoc : Int))) ∧ Below w.heap.size w w' := by
  have hb : Below w.heap.size w w := Below.refl _ _
  have C := fun W => Lib.hid (at11 B W)
  have Nn := fun W => run_neq_nil_nil W _ _ _ _ Tryd.underlying85
  have Ns := fun W => run_neq_func_nil W _ _ _ _ (.func 99) #[] #[] Tryd.underlying86
  have h2 := (h.al (.cells #[.int .u16 2048, .string ⟨#[97, 115, 115, 111, 99]⟩, .nilFunc, .nilFunc, .func (.func 99) #[] #[], .nilFunc] 89)).c
  go_enter Tryd.func100, Tryd.ntmps100
  go_wp2_with (go_at_call 99; ((with_reducible refine (C _).out.mono ?_); rintro e w1 ⟨rfl, rfl⟩))
  go_ret
  exact ⟨rfl, bAl hb _⟩
set_option maxHeartbeats 2000000 in
theorem zero11 (o : Ob) (B : Nat) (w : World) (h : AtC w B (obCells o)) (hk : o.assoc ≤ 255) : Calls Tryd.prog 80 #[fld11, .pointer (some ⟨B, 0, none⟩)] w fun e w' => e = .returned (.bool ((o.assoc : Int) == 0)) ∧ Below w.heap.size w w' := by
  have hb : Below w.heap.size w w := Below.refl _ _
  have C := Lib.hid (count11 o B _ (h.al (.cells #[.int .u16 2048, .string ⟨#[97, 115, 115, 111, 99]⟩, .nilFunc, .nilFunc, .func (.func 99) #[] #[], .nilFunc] 89)) hk)
  have Nw := fun W => run_neq_nil_nil W _ _ _ _ Tryd.underlying84
  generalize (o.assoc : Int) = c at *
  clear h
  go_enter Tryd.func80, Tryd.ntmps80
  go_wp2_with (go_at_call 100; ((with_reducible refine C.out.mono ?_); rintro e w1 ⟨rfl, k1⟩; replace hb := bThen (bAl hb _) k1))
  go_ret
  exact ⟨rfl, hb⟩
end Go.Proofs.YtmhilhdmbbdnaaaDoor
