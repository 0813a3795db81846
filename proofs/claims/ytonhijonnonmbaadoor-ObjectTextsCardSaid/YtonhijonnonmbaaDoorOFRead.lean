/-
  WALKS: what a text says, filled into a field of an object of the call's own.
-/
import Derived.Test.YtonhijonnonmbaaDoorOZero
import Derived.Test.YtonhijonnonmbaaDoorFParse
import Derived.Laws.OwnMore
namespace Go.Proofs.YtonhijonnonmbaaDoor
open Go.RowKit FixMath
set_option maxRecDepth 100000
set_option linter.unusedVariables false
set_option linter.unusedSimpArgs false

/-- The number that a text is of (no digits behind the dot), and 0. -/
noncomputable def numV (v : ByteArray) : Int := by classical exact if isText v.data.toList 0 then readZ v.data.toList else 0
theorem parse_num (v : ByteArray) : ∃ q : Int, parseV v.data.toList 0 = .tuple #[.int .i64 (numV v), .int .i64 q] := by
  by_cases h : isText v.data.toList 0
  · exact ⟨0, by rw [parseV_t h]; unfold numV; rw [if_pos h]⟩
  · exact ⟨20, by rw [parseV_f h]; unfold numV; rw [if_neg h]⟩
theorem numV_le (v : ByteArray) : -1000000000000000 ≤ numV v ∧ numV v ≤ 1000000000000000 := by
  by_cases h : isText v.data.toList 0
  · have h2 := (countsB_out (isText_iff.1 h).1)
    unfold numV; rw [if_pos h]; exact ⟨h2.1, h2.2.1⟩
  · unfold numV; rw [if_neg h]; omega
def u8N (n : Int) : Nat := (n % 256).toNat
theorem u8N_int (n : Int) : ((u8N n : Nat) : Int) = n % 256 := by unfold u8N; omega
theorem u8N_le (n : Int) : u8N n ≤ 255 := by unfold u8N; omega
/-- Field i of an object, filled with what v says. -/
noncomputable def setF (o : Ob) (v : ByteArray) : Nat → Ob
  | 0 => { o with parent := v }
  | 1 => { o with typ := u8N (numV v) }
  | 2 => { o with ref := v }
  | 3 => { o with lo := numV v }
  | 4 => { o with hi := numV v }
  | 5 => { o with digits := u8N (numV v) }
  | 6 => { o with on := (numV v != 0) }
  | 7 => { o with has := (numV v != 0) }
  | 8 => { o with value := numV v }
  | 9 => { o with low := numV v }
  | 10 => { o with high := numV v }
  | 11 => { o with assoc := u8N (numV v) }
  | _ => o
theorem grownB {w w1 : World} (k : Below w.heap.size w w1) (B : Nat) : w.grownBy w1 (some B) := ⟨k.os, k.tape, k.output, k.size, fun i hi _ => k.block i hi⟩
theorem grown_cell {w0 w : World} {g : Nat} (h : w0.grownBy w (some g)) (k : Nat) (v : Value) : w0.grownBy (w.setCell ⟨g, k, none⟩ v) (some g) where
  os := h.os
  tape := h.tape
  output := h.output
  size := by have := h.size; simpa using this
  block := fun i hi hne => (Below.heap_setCell w ⟨g, k, none⟩ v i (fun e => hne (congrArg some e))).trans (h.block i hi hne)
set_option maxHeartbeats 2000000 in
theorem fread0 (o : Ob) (B : Nat) (v : ByteArray) (w : World) (h : AtC w B (obCells o)) (hv : v.size ≤ maxLen) : Calls Tryd.prog 51 #[fld0, .pointer (some ⟨B, 0, none⟩), .string v] w fun e w' => e = .returned (.tuple #[]) ∧ AtC w' B (obCells (setF o v 0)) ∧ w.grownBy w' (some B) := by
  have hb : Below w.heap.size w w := Below.refl _ _
  have C := fun W => Lib.hid (at0 B W)
  have CP := Lib.hid (fun W => parse_any v 0 W hv)
  obtain ⟨q, hq⟩ := parse_num v
  rw [hq] at CP
  have CP2 : Hid (∀ W, Calls Tryd.prog 71 #[.string v, .int .u8 0] W fun e w' => e = .returned (.tuple #[.int .i64 (numV v), .int .i64 q]) ∧ Below W.heap.size W w') := CP
  have hn := numV_le v
  have HH := Lib.hid h
  have HS : Hid (obCells (setF o v 0) = (obCells o).setIfInBounds 2 (.string v)) := Lib.hid (by simp [setF, obCells, u8N_int])
  have Nw := fun W => run_neq_func_nil W _ _ _ _ (.func 28) #[] #[] Tryd.underlying41
  clear CP hq h
  generalize obCells (setF o v 0) = R at *
  generalize numV v = n at *
  go_enter Tryd.func51, Tryd.ntmps51
  go_wp2_with fail
  go_at_call 71
  with_reducible refine (CP2.out _).mono ?_
  rintro e w1 ⟨rfl, k1⟩
  have mF := ((AtC.new w #[.int .u16 1, .string ⟨#[112, 97, 114, 101, 110, 116]⟩, .func (.func 28) #[] #[], .nilFunc, .nilFunc, .nilFunc] 46).then k1)
  have mO := ((HH.out.al (.cells #[.int .u16 1, .string ⟨#[112, 97, 114, 101, 110, 116]⟩, .func (.func 28) #[] #[], .nilFunc, .nilFunc, .nilFunc] 46)).then k1)
  have hbw := bThen (bAl hb (.cells #[.int .u16 1, .string ⟨#[112, 97, 114, 101, 110, 116]⟩, .func (.func 28) #[] #[], .nilFunc, .nilFunc, .nilFunc] 46)) k1
  have h2 := mF.c
  have h3 := mO.c
  have h4 := mO.f
  have h5 := mO.lt
  have MO := Lib.hid mO
  clear mF mO k1 hb
  go_wp2_with (go_at_call 28; ((with_reducible refine (C _).out.mono ?_); rintro e w2 ⟨rfl, rfl⟩))
  go_end0
  exact ⟨rfl, by rw [HS.out]; exact MO.out.set (i := 2) (by simp) _, grown_cell (grownB hbw B) 2 _⟩
set_option maxHeartbeats 2000000 in
theorem fread1 (o : Ob) (B : Nat) (v : ByteArray) (w : World) (h : AtC w B (obCells o)) (hv : v.size ≤ maxLen) : Calls Tryd.prog 51 #[fld1, .pointer (some ⟨B, 0, none⟩), .string v] w fun e w' => e = .returned (.tuple #[]) ∧ AtC w' B (obCells (setF o v 1)) ∧ w.grownBy w' (some B) := by
  have hb : Below w.heap.size w w := Below.refl _ _
  have C := fun W => Lib.hid (at1 B W)
  have CP := Lib.hid (fun W => parse_any v 0 W hv)
  obtain ⟨q, hq⟩ := parse_num v
  rw [hq] at CP
  have CP2 : Hid (∀ W, Calls Tryd.prog 71 #[.string v, .int .u8 0] W fun e w' => e = .returned (.tuple #[.int .i64 (numV v), .int .i64 q]) ∧ Below W.heap.size W w') := CP
  have hn := numV_le v
  have HH := Lib.hid h
  have HS : Hid (obCells (setF o v 1) = (obCells o).setIfInBounds 3 (.int .u8 (numV v % 256))) := Lib.hid (by simp [setF, obCells, u8N_int])
  have Nw := fun W => run_neq_nil_nil W _ _ _ _ Tryd.underlying41
  have Nn := fun W => run_neq_nil_nil W _ _ _ _ Tryd.underlying42
  have Ns := fun W => run_neq_func_nil W _ _ _ _ (.func 29) #[] #[] Tryd.underlying43
  clear CP hq h
  generalize obCells (setF o v 1) = R at *
  generalize numV v = n at *
  go_enter Tryd.func51, Tryd.ntmps51
  go_wp2_with fail
  go_at_call 71
  with_reducible refine (CP2.out _).mono ?_
  rintro e w1 ⟨rfl, k1⟩
  have mF := ((AtC.new w #[.int .u16 2, .string ⟨#[116, 121, 112, 101]⟩, .nilFunc, .nilFunc, .func (.func 29) #[] #[], .nilFunc] 46).then k1)
  have mO := ((HH.out.al (.cells #[.int .u16 2, .string ⟨#[116, 121, 112, 101]⟩, .nilFunc, .nilFunc, .func (.func 29) #[] #[], .nilFunc] 46)).then k1)
  have hbw := bThen (bAl hb (.cells #[.int .u16 2, .string ⟨#[116, 121, 112, 101]⟩, .nilFunc, .nilFunc, .func (.func 29) #[] #[], .nilFunc] 46)) k1
  have h2 := mF.c
  have h3 := mO.c
  have h4 := mO.f
  have h5 := mO.lt
  have MO := Lib.hid mO
  clear mF mO k1 hb
  go_wp2_with (go_at_call 29; ((with_reducible refine (C _).out.mono ?_); rintro e w2 ⟨rfl, rfl⟩))
  go_end0
  exact ⟨rfl, by rw [HS.out]; exact MO.out.set (i := 3) (by simp) _, grown_cell (grownB hbw B) 3 _⟩
set_option maxHeartbeats 2000000 in
theorem fread2 (o : Ob) (B : Nat) (v : ByteArray) (w : World) (h : AtC w B (obCells o)) (hv : v.size ≤ maxLen) : Calls Tryd.prog 51 #[fld2, .pointer (some ⟨B, 0, none⟩), .string v] w fun e w' => e = .returned (.tuple #[]) ∧ AtC w' B (obCells (setF o v 2)) ∧ w.grownBy w' (some B) := by
  have hb : Below w.heap.size w w := Below.refl _ _
  have C := fun W => Lib.hid (at2 B W)
  have CP := Lib.hid (fun W => parse_any v 0 W hv)
  obtain ⟨q, hq⟩ := parse_num v
  rw [hq] at CP
  have CP2 : Hid (∀ W, Calls Tryd.prog 71 #[.string v, .int .u8 0] W fun e w' => e = .returned (.tuple #[.int .i64 (numV v), .int .i64 q]) ∧ Below W.heap.size W w') := CP
  have hn := numV_le v
  have HH := Lib.hid h
  have HS : Hid (obCells (setF o v 2) = (obCells o).setIfInBounds 4 (.string v)) := Lib.hid (by simp [setF, obCells, u8N_int])
  have Nw := fun W => run_neq_func_nil W _ _ _ _ (.func 30) #[] #[] Tryd.underlying41
  clear CP hq h
  generalize obCells (setF o v 2) = R at *
  generalize numV v = n at *
  go_enter Tryd.func51, Tryd.ntmps51
  go_wp2_with fail
  go_at_call 71
  with_reducible refine (CP2.out _).mono ?_
  rintro e w1 ⟨rfl, k1⟩
  have mF := ((AtC.new w #[.int .u16 4, .string ⟨#[114, 101, 102]⟩, .func (.func 30) #[] #[], .nilFunc, .nilFunc, .nilFunc] 46).then k1)
  have mO := ((HH.out.al (.cells #[.int .u16 4, .string ⟨#[114, 101, 102]⟩, .func (.func 30) #[] #[], .nilFunc, .nilFunc, .nilFunc] 46)).then k1)
  have hbw := bThen (bAl hb (.cells #[.int .u16 4, .string ⟨#[114, 101, 102]⟩, .func (.func 30) #[] #[], .nilFunc, .nilFunc, .nilFunc] 46)) k1
  have h2 := mF.c
  have h3 := mO.c
  have h4 := mO.f
  have h5 := mO.lt
  have MO := Lib.hid mO
  clear mF mO k1 hb
  go_wp2_with (go_at_call 30; ((with_reducible refine (C _).out.mono ?_); rintro e w2 ⟨rfl, rfl⟩))
  go_end0
  exact ⟨rfl, by rw [HS.out]; exact MO.out.set (i := 4) (by simp) _, grown_cell (grownB hbw B) 4 _⟩
set_option maxHeartbeats 2000000 in
theorem fread3 (o : Ob) (B : Nat) (v : ByteArray) (w : World) (h : AtC w B (obCells o)) (hv : v.size ≤ maxLen) : Calls Tryd.prog 51 #[fld3, .pointer (some ⟨B, 0, none⟩), .string v] w fun e w' => e = .returned (.tuple #[]) ∧ AtC w' B (obCells (setF o v 3)) ∧ w.grownBy w' (some B) := by
  have hb : Below w.heap.size w w := Below.refl _ _
  have C := fun W => Lib.hid (at3 B W)
  have CP := Lib.hid (fun W => parse_any v 0 W hv)
  obtain ⟨q, hq⟩ := parse_num v
  rw [hq] at CP
  have CP2 : Hid (∀ W, Calls Tryd.prog 71 #[.string v, .int .u8 0] W fun e w' => e = .returned (.tuple #[.int .i64 (numV v), .int .i64 q]) ∧ Below W.heap.size W w') := CP
  have hn := numV_le v
  have HH := Lib.hid h
  have HS : Hid (obCells (setF o v 3) = (obCells o).setIfInBounds 5 (.int .i64 (numV v))) := Lib.hid (by simp [setF, obCells, u8N_int])
  have Nw := fun W => run_neq_nil_nil W _ _ _ _ Tryd.underlying41
  have Nn := fun W => run_neq_func_nil W _ _ _ _ (.func 31) #[] #[] Tryd.underlying42
  clear CP hq h
  generalize obCells (setF o v 3) = R at *
  generalize numV v = n at *
  go_enter Tryd.func51, Tryd.ntmps51
  go_wp2_with fail
  go_at_call 71
  with_reducible refine (CP2.out _).mono ?_
  rintro e w1 ⟨rfl, k1⟩
  have mF := ((AtC.new w #[.int .u16 8, .string ⟨#[108, 111]⟩, .nilFunc, .func (.func 31) #[] #[], .nilFunc, .nilFunc] 46).then k1)
  have mO := ((HH.out.al (.cells #[.int .u16 8, .string ⟨#[108, 111]⟩, .nilFunc, .func (.func 31) #[] #[], .nilFunc, .nilFunc] 46)).then k1)
  have hbw := bThen (bAl hb (.cells #[.int .u16 8, .string ⟨#[108, 111]⟩, .nilFunc, .func (.func 31) #[] #[], .nilFunc, .nilFunc] 46)) k1
  have h2 := mF.c
  have h3 := mO.c
  have h4 := mO.f
  have h5 := mO.lt
  have MO := Lib.hid mO
  clear mF mO k1 hb
  go_wp2_with (go_at_call 31; ((with_reducible refine (C _).out.mono ?_); rintro e w2 ⟨rfl, rfl⟩))
  go_end0
  exact ⟨rfl, by rw [HS.out]; exact MO.out.set (i := 5) (by simp) _, grown_cell (grownB hbw B) 5 _⟩
set_option maxHeartbeats 2000000 in
theorem fread4 (o : Ob) (B : Nat) (v : ByteArray) (w : World) (h : AtC w B (obCells o)) (hv : v.size ≤ maxLen) : Calls Tryd.prog 51 #[fld4, .pointer (some ⟨B, 0, none⟩), .string v] w fun e w' => e = .returned (.tuple #[]) ∧ AtC w' B (obCells (setF o v 4)) ∧ w.grownBy w' (some B) := by
  have hb : Below w.heap.size w w := Below.refl _ _
  have C := fun W => Lib.hid (at4 B W)
  have CP := Lib.hid (fun W => parse_any v 0 W hv)
  obtain ⟨q, hq⟩ := parse_num v
  rw [hq] at CP
  have CP2 : Hid (∀ W, Calls Tryd.prog 71 #[.string v, .int .u8 0] W fun e w' => e = .returned (.tuple #[.int .i64 (numV v), .int .i64 q]) ∧ Below W.heap.size W w') := CP
  have hn := numV_le v
  have HH := Lib.hid h
  have HS : Hid (obCells (setF o v 4) = (obCells o).setIfInBounds 6 (.int .i64 (numV v))) := Lib.hid (by simp [setF, obCells, u8N_int])
  have Nw := fun W => run_neq_nil_nil W _ _ _ _ Tryd.underlying41
  have Nn := fun W => run_neq_func_nil W _ _ _ _ (.func 32) #[] #[] Tryd.underlying42
  clear CP hq h
  generalize obCells (setF o v 4) = R at *
  generalize numV v = n at *
  go_enter Tryd.func51, Tryd.ntmps51
  go_wp2_with fail
  go_at_call 71
  with_reducible refine (CP2.out _).mono ?_
  rintro e w1 ⟨rfl, k1⟩
  have mF := ((AtC.new w #[.int .u16 16, .string ⟨#[104, 105]⟩, .nilFunc, .func (.func 32) #[] #[], .nilFunc, .nilFunc] 46).then k1)
  have mO := ((HH.out.al (.cells #[.int .u16 16, .string ⟨#[104, 105]⟩, .nilFunc, .func (.func 32) #[] #[], .nilFunc, .nilFunc] 46)).then k1)
  have hbw := bThen (bAl hb (.cells #[.int .u16 16, .string ⟨#[104, 105]⟩, .nilFunc, .func (.func 32) #[] #[], .nilFunc, .nilFunc] 46)) k1
  have h2 := mF.c
  have h3 := mO.c
  have h4 := mO.f
  have h5 := mO.lt
  have MO := Lib.hid mO
  clear mF mO k1 hb
  go_wp2_with (go_at_call 32; ((with_reducible refine (C _).out.mono ?_); rintro e w2 ⟨rfl, rfl⟩))
  go_end0
  exact ⟨rfl, by rw [HS.out]; exact MO.out.set (i := 6) (by simp) _, grown_cell (grownB hbw B) 6 _⟩
set_option maxHeartbeats 2000000 in
theorem fread5 (o : Ob) (B : Nat) (v : ByteArray) (w : World) (h : AtC w B (obCells o)) (hv : v.size ≤ maxLen) : Calls Tryd.prog 51 #[fld5, .pointer (some ⟨B, 0, none⟩), .string v] w fun e w' => e = .returned (.tuple #[]) ∧ AtC w' B (obCells (setF o v 5)) ∧ w.grownBy w' (some B) := by
  have hb : Below w.heap.size w w := Below.refl _ _
  have C := fun W => Lib.hid (at5 B W)
  have CP := Lib.hid (fun W => parse_any v 0 W hv)
  obtain ⟨q, hq⟩ := parse_num v
  rw [hq] at CP
  have CP2 : Hid (∀ W, Calls Tryd.prog 71 #[.string v, .int .u8 0] W fun e w' => e = .returned (.tuple #[.int .i64 (numV v), .int .i64 q]) ∧ Below W.heap.size W w') := CP
  have hn := numV_le v
  have HH := Lib.hid h
  have HS : Hid (obCells (setF o v 5) = (obCells o).setIfInBounds 7 (.int .u8 (numV v % 256))) := Lib.hid (by simp [setF, obCells, u8N_int])
  have Nw := fun W => run_neq_nil_nil W _ _ _ _ Tryd.underlying41
  have Nn := fun W => run_neq_nil_nil W _ _ _ _ Tryd.underlying42
  have Ns := fun W => run_neq_func_nil W _ _ _ _ (.func 33) #[] #[] Tryd.underlying43
  clear CP hq h
  generalize obCells (setF o v 5) = R at *
  generalize numV v = n at *
  go_enter Tryd.func51, Tryd.ntmps51
  go_wp2_with fail
  go_at_call 71
  with_reducible refine (CP2.out _).mono ?_
  rintro e w1 ⟨rfl, k1⟩
  have mF := ((AtC.new w #[.int .u16 32, .string ⟨#[100, 105, 103, 105, 116, 115]⟩, .nilFunc, .nilFunc, .func (.func 33) #[] #[], .nilFunc] 46).then k1)
  have mO := ((HH.out.al (.cells #[.int .u16 32, .string ⟨#[100, 105, 103, 105, 116, 115]⟩, .nilFunc, .nilFunc, .func (.func 33) #[] #[], .nilFunc] 46)).then k1)
  have hbw := bThen (bAl hb (.cells #[.int .u16 32, .string ⟨#[100, 105, 103, 105, 116, 115]⟩, .nilFunc, .nilFunc, .func (.func 33) #[] #[], .nilFunc] 46)) k1
  have h2 := mF.c
  have h3 := mO.c
  have h4 := mO.f
  have h5 := mO.lt
  have MO := Lib.hid mO
  clear mF mO k1 hb
  go_wp2_with (go_at_call 33; ((with_reducible refine (C _).out.mono ?_); rintro e w2 ⟨rfl, rfl⟩))
  go_end0
  exact ⟨rfl, by rw [HS.out]; exact MO.out.set (i := 7) (by simp) _, grown_cell (grownB hbw B) 7 _⟩
set_option maxHeartbeats 2000000 in
theorem fread6 (o : Ob) (B : Nat) (v : ByteArray) (w : World) (h : AtC w B (obCells o)) (hv : v.size ≤ maxLen) : Calls Tryd.prog 51 #[fld6, .pointer (some ⟨B, 0, none⟩), .string v] w fun e w' => e = .returned (.tuple #[]) ∧ AtC w' B (obCells (setF o v 6)) ∧ w.grownBy w' (some B) := by
  have hb : Below w.heap.size w w := Below.refl _ _
  have C := fun W => Lib.hid (at6 B W)
  have CP := Lib.hid (fun W => parse_any v 0 W hv)
  obtain ⟨q, hq⟩ := parse_num v
  rw [hq] at CP
  have CP2 : Hid (∀ W, Calls Tryd.prog 71 #[.string v, .int .u8 0] W fun e w' => e = .returned (.tuple #[.int .i64 (numV v), .int .i64 q]) ∧ Below W.heap.size W w') := CP
  have hn := numV_le v
  have HH := Lib.hid h
  have HS : Hid (obCells (setF o v 6) = (obCells o).setIfInBounds 8 (.bool (numV v != 0))) := Lib.hid (by simp [setF, obCells, u8N_int])
  have Nw := fun W => run_neq_nil_nil W _ _ _ _ Tryd.underlying41
  have Nn := fun W => run_neq_nil_nil W _ _ _ _ Tryd.underlying42
  have Ns := fun W => run_neq_nil_nil W _ _ _ _ Tryd.underlying43
  clear CP hq h
  generalize obCells (setF o v 6) = R at *
  generalize numV v = n at *
  go_enter Tryd.func51, Tryd.ntmps51
  go_wp2_with fail
  go_at_call 71
  with_reducible refine (CP2.out _).mono ?_
  rintro e w1 ⟨rfl, k1⟩
  have mF := ((AtC.new w #[.int .u16 64, .string ⟨#[111, 110]⟩, .nilFunc, .nilFunc, .nilFunc, .func (.func 34) #[] #[]] 46).then k1)
  have mO := ((HH.out.al (.cells #[.int .u16 64, .string ⟨#[111, 110]⟩, .nilFunc, .nilFunc, .nilFunc, .func (.func 34) #[] #[]] 46)).then k1)
  have hbw := bThen (bAl hb (.cells #[.int .u16 64, .string ⟨#[111, 110]⟩, .nilFunc, .nilFunc, .nilFunc, .func (.func 34) #[] #[]] 46)) k1
  have h2 := mF.c
  have h3 := mO.c
  have h4 := mO.f
  have h5 := mO.lt
  have MO := Lib.hid mO
  clear mF mO k1 hb
  go_wp2_with (go_at_call 34; ((with_reducible refine (C _).out.mono ?_); rintro e w2 ⟨rfl, rfl⟩))
  go_end0
  exact ⟨rfl, by rw [HS.out]; exact MO.out.set (i := 8) (by simp) _, grown_cell (grownB hbw B) 8 _⟩
set_option maxHeartbeats 2000000 in
theorem fread7 (o : Ob) (B : Nat) (v : ByteArray) (w : World) (h : AtC w B (obCells o)) (hv : v.size ≤ maxLen) : Calls Tryd.prog 51 #[fld7, .pointer (some ⟨B, 0, none⟩), .string v] w fun e w' => e = .returned (.tuple #[]) ∧ AtC w' B (obCells (setF o v 7)) ∧ w.grownBy w' (some B) := by
  have hb : Below w.heap.size w w := Below.refl _ _
  have C := fun W => Lib.hid (at7 B W)
  have CP := Lib.hid (fun W => parse_any v 0 W hv)
  obtain ⟨q, hq⟩ := parse_num v
  rw [hq] at CP
  have CP2 : Hid (∀ W, Calls Tryd.prog 71 #[.string v, .int .u8 0] W fun e w' => e = .returned (.tuple #[.int .i64 (numV v), .int .i64 q]) ∧ Below W.heap.size W w') := CP
  have hn := numV_le v
  have HH := Lib.hid h
  have HS : Hid (obCells (setF o v 7) = (obCells o).setIfInBounds 9 (.bool (numV v != 0))) := Lib.hid (by simp [setF, obCells, u8N_int])
  have Nw := fun W => run_neq_nil_nil W _ _ _ _ Tryd.underlying41
  have Nn := fun W => run_neq_nil_nil W _ _ _ _ Tryd.underlying42
  have Ns := fun W => run_neq_nil_nil W _ _ _ _ Tryd.underlying43
  clear CP hq h
  generalize obCells (setF o v 7) = R at *
  generalize numV v = n at *
  go_enter Tryd.func51, Tryd.ntmps51
  go_wp2_with fail
  go_at_call 71
  with_reducible refine (CP2.out _).mono ?_
  rintro e w1 ⟨rfl, k1⟩
  have mF := ((AtC.new w #[.int .u16 128, .string ⟨#[104, 97, 115]⟩, .nilFunc, .nilFunc, .nilFunc, .func (.func 35) #[] #[]] 46).then k1)
  have mO := ((HH.out.al (.cells #[.int .u16 128, .string ⟨#[104, 97, 115]⟩, .nilFunc, .nilFunc, .nilFunc, .func (.func 35) #[] #[]] 46)).then k1)
  have hbw := bThen (bAl hb (.cells #[.int .u16 128, .string ⟨#[104, 97, 115]⟩, .nilFunc, .nilFunc, .nilFunc, .func (.func 35) #[] #[]] 46)) k1
  have h2 := mF.c
  have h3 := mO.c
  have h4 := mO.f
  have h5 := mO.lt
  have MO := Lib.hid mO
  clear mF mO k1 hb
  go_wp2_with (go_at_call 35; ((with_reducible refine (C _).out.mono ?_); rintro e w2 ⟨rfl, rfl⟩))
  go_end0
  exact ⟨rfl, by rw [HS.out]; exact MO.out.set (i := 9) (by simp) _, grown_cell (grownB hbw B) 9 _⟩
set_option maxHeartbeats 2000000 in
theorem fread8 (o : Ob) (B : Nat) (v : ByteArray) (w : World) (h : AtC w B (obCells o)) (hv : v.size ≤ maxLen) : Calls Tryd.prog 51 #[fld8, .pointer (some ⟨B, 0, none⟩), .string v] w fun e w' => e = .returned (.tuple #[]) ∧ AtC w' B (obCells (setF o v 8)) ∧ w.grownBy w' (some B) := by
  have hb : Below w.heap.size w w := Below.refl _ _
  have C := fun W => Lib.hid (at8 B W)
  have CP := Lib.hid (fun W => parse_any v 0 W hv)
  obtain ⟨q, hq⟩ := parse_num v
  rw [hq] at CP
  have CP2 : Hid (∀ W, Calls Tryd.prog 71 #[.string v, .int .u8 0] W fun e w' => e = .returned (.tuple #[.int .i64 (numV v), .int .i64 q]) ∧ Below W.heap.size W w') := CP
  have hn := numV_le v
  have HH := Lib.hid h
  have HS : Hid (obCells (setF o v 8) = (obCells o).setIfInBounds 10 (.int .i64 (numV v))) := Lib.hid (by simp [setF, obCells, u8N_int])
  have Nw := fun W => run_neq_nil_nil W _ _ _ _ Tryd.underlying41
  have Nn := fun W => run_neq_func_nil W _ _ _ _ (.func 36) #[] #[] Tryd.underlying42
  clear CP hq h
  generalize obCells (setF o v 8) = R at *
  generalize numV v = n at *
  go_enter Tryd.func51, Tryd.ntmps51
  go_wp2_with fail
  go_at_call 71
  with_reducible refine (CP2.out _).mono ?_
  rintro e w1 ⟨rfl, k1⟩
  have mF := ((AtC.new w #[.int .u16 256, .string ⟨#[118, 97, 108, 117, 101]⟩, .nilFunc, .func (.func 36) #[] #[], .nilFunc, .nilFunc] 46).then k1)
  have mO := ((HH.out.al (.cells #[.int .u16 256, .string ⟨#[118, 97, 108, 117, 101]⟩, .nilFunc, .func (.func 36) #[] #[], .nilFunc, .nilFunc] 46)).then k1)
  have hbw := bThen (bAl hb (.cells #[.int .u16 256, .string ⟨#[118, 97, 108, 117, 101]⟩, .nilFunc, .func (.func 36) #[] #[], .nilFunc, .nilFunc] 46)) k1
  have h2 := mF.c
  have h3 := mO.c
  have h4 := mO.f
  have h5 := mO.lt
  have MO := Lib.hid mO
  clear mF mO k1 hb
  go_wp2_with (go_at_call 36; ((with_reducible refine (C _).out.mono ?_); rintro e w2 ⟨rfl, rfl⟩))
  go_end0
  exact ⟨rfl, by rw [HS.out]; exact MO.out.set (i := 10) (by simp) _, grown_cell (grownB hbw B) 10 _⟩
set_option maxHeartbeats 2000000 in
theorem fread9 (o : Ob) (B : Nat) (v : ByteArray) (w : World) (h : AtC w B (obCells o)) (hv : v.size ≤ maxLen) : Calls Tryd.prog 51 #[fld9, .pointer (some ⟨B, 0, none⟩), .string v] w fun e w' => e = .returned (.tuple #[]) ∧ AtC w' B (obCells (setF o v 9)) ∧ w.grownBy w' (some B) := by
  have hb : Below w.heap.size w w := Below.refl _ _
  have C := fun W => Lib.hid (at9 B W)
  have CP := Lib.hid (fun W => parse_any v 0 W hv)
  obtain ⟨q, hq⟩ := parse_num v
  rw [hq] at CP
  have CP2 : Hid (∀ W, Calls Tryd.prog 71 #[.string v, .int .u8 0] W fun e w' => e = .returned (.tuple #[.int .i64 (numV v), .int .i64 q]) ∧ Below W.heap.size W w') := CP
  have hn := numV_le v
  have HH := Lib.hid h
  have HS : Hid (obCells (setF o v 9) = (obCells o).setIfInBounds 11 (.int .i64 (numV v))) := Lib.hid (by simp [setF, obCells, u8N_int])
  have Nw := fun W => run_neq_nil_nil W _ _ _ _ Tryd.underlying41
  have Nn := fun W => run_neq_func_nil W _ _ _ _ (.func 37) #[] #[] Tryd.underlying42
  clear CP hq h
  generalize obCells (setF o v 9) = R at *
  generalize numV v = n at *
  go_enter Tryd.func51, Tryd.ntmps51
  go_wp2_with fail
  go_at_call 71
  with_reducible refine (CP2.out _).mono ?_
  rintro e w1 ⟨rfl, k1⟩
  have mF := ((AtC.new w #[.int .u16 512, .string ⟨#[108, 111, 119]⟩, .nilFunc, .func (.func 37) #[] #[], .nilFunc, .nilFunc] 46).then k1)
  have mO := ((HH.out.al (.cells #[.int .u16 512, .string ⟨#[108, 111, 119]⟩, .nilFunc, .func (.func 37) #[] #[], .nilFunc, .nilFunc] 46)).then k1)
  have hbw := bThen (bAl hb (.cells #[.int .u16 512, .string ⟨#[108, 111, 119]⟩, .nilFunc, .func (.func 37) #[] #[], .nilFunc, .nilFunc] 46)) k1
  have h2 := mF.c
  have h3 := mO.c
  have h4 := mO.f
  have h5 := mO.lt
  have MO := Lib.hid mO
  clear mF mO k1 hb
  go_wp2_with (go_at_call 37; ((with_reducible refine (C _).out.mono ?_); rintro e w2 ⟨rfl, rfl⟩))
  go_end0
  exact ⟨rfl, by rw [HS.out]; exact MO.out.set (i := 11) (by simp) _, grown_cell (grownB hbw B) 11 _⟩
set_option maxHeartbeats 2000000 in
theorem fread10 (o : Ob) (B : Nat) (v : ByteArray) (w : World) (h : AtC w B (obCells o)) (hv : v.size ≤ maxLen) : Calls Tryd.prog 51 #[fld10, .pointer (some ⟨B, 0, none⟩), .string v] w fun e w' => e = .returned (.tuple #[]) ∧ AtC w' B (obCells (setF o v 10)) ∧ w.grownBy w' (some B) := by
  have hb : Below w.heap.size w w := Below.refl _ _
  have C := fun W => Lib.hid (at10 B W)
  have CP := Lib.hid (fun W => parse_any v 0 W hv)
  obtain ⟨q, hq⟩ := parse_num v
  rw [hq] at CP
  have CP2 : Hid (∀ W, Calls Tryd.prog 71 #[.string v, .int .u8 0] W fun e w' => e = .returned (.tuple #[.int .i64 (numV v), .int .i64 q]) ∧ Below W.heap.size W w') := CP
  have hn := numV_le v
  have HH := Lib.hid h
  have HS : Hid (obCells (setF o v 10) = (obCells o).setIfInBounds 12 (.int .i64 (numV v))) := Lib.hid (by simp [setF, obCells, u8N_int])
  have Nw := fun W => run_neq_nil_nil W _ _ _ _ Tryd.underlying41
  have Nn := fun W => run_neq_func_nil W _ _ _ _ (.func 38) #[] #[] Tryd.underlying42
  clear CP hq h
  generalize obCells (setF o v 10) = R at *
  generalize numV v = n at *
  go_enter Tryd.func51, Tryd.ntmps51
  go_wp2_with fail
  go_at_call 71
  with_reducible refine (CP2.out _).mono ?_
  rintro e w1 ⟨rfl, k1⟩
  have mF := ((AtC.new w #[.int .u16 1024, .string ⟨#[104, 105, 103, 104]⟩, .nilFunc, .func (.func 38) #[] #[], .nilFunc, .nilFunc] 46).then k1)
  have mO := ((HH.out.al (.cells #[.int .u16 1024, .string ⟨#[104, 105, 103, 104]⟩, .nilFunc, .func (.func 38) #[] #[], .nilFunc, .nilFunc] 46)).then k1)
  have hbw := bThen (bAl hb (.cells #[.int .u16 1024, .string ⟨#[104, 105, 103, 104]⟩, .nilFunc, .func (.func 38) #[] #[], .nilFunc, .nilFunc] 46)) k1
  have h2 := mF.c
  have h3 := mO.c
  have h4 := mO.f
  have h5 := mO.lt
  have MO := Lib.hid mO
  clear mF mO k1 hb
  go_wp2_with (go_at_call 38; ((with_reducible refine (C _).out.mono ?_); rintro e w2 ⟨rfl, rfl⟩))
  go_end0
  exact ⟨rfl, by rw [HS.out]; exact MO.out.set (i := 12) (by simp) _, grown_cell (grownB hbw B) 12 _⟩
set_option maxHeartbeats 2000000 in
theorem fread11 (o : Ob) (B : Nat) (v : ByteArray) (w : World) (h : AtC w B (obCells o)) (hv : v.size ≤ maxLen) : Calls Tryd.prog 51 #[fld11, .pointer (some ⟨B, 0, none⟩), .string v] w fun e w' => e = .returned (.tuple #[]) ∧ AtC w' B (obCells (setF o v 11)) ∧ w.grownBy w' (some B) := by
  have hb : Below w.heap.size w w := Below.refl _ _
  have C := fun W => Lib.hid (at11 B W)
  have CP := Lib.hid (fun W => parse_any v 0 W hv)
  obtain ⟨q, hq⟩ := parse_num v
  rw [hq] at CP
  have CP2 : Hid (∀ W, Calls Tryd.prog 71 #[.string v, .int .u8 0] W fun e w' => e = .returned (.tuple #[.int .i64 (numV v), .int .i64 q]) ∧ Below W.heap.size W w') := CP
  have hn := numV_le v
  have HH := Lib.hid h
  have HS : Hid (obCells (setF o v 11) = (obCells o).setIfInBounds 13 (.int .u8 (numV v % 256))) := Lib.hid (by simp [setF, obCells, u8N_int])
  have Nw := fun W => run_neq_nil_nil W _ _ _ _ Tryd.underlying41
  have Nn := fun W => run_neq_nil_nil W _ _ _ _ Tryd.underlying42
  have Ns := fun W => run_neq_func_nil W _ _ _ _ (.func 39) #[] #[] Tryd.underlying43
  clear CP hq h
  generalize obCells (setF o v 11) = R at *
  generalize numV v = n at *
  go_enter Tryd.func51, Tryd.ntmps51
  go_wp2_with fail
  go_at_call 71
  with_reducible refine (CP2.out _).mono ?_
  rintro e w1 ⟨rfl, k1⟩
  have mF := ((AtC.new w #[.int .u16 2048, .string ⟨#[97, 115, 115, 111, 99]⟩, .nilFunc, .nilFunc, .func (.func 39) #[] #[], .nilFunc] 46).then k1)
  have mO := ((HH.out.al (.cells #[.int .u16 2048, .string ⟨#[97, 115, 115, 111, 99]⟩, .nilFunc, .nilFunc, .func (.func 39) #[] #[], .nilFunc] 46)).then k1)
  have hbw := bThen (bAl hb (.cells #[.int .u16 2048, .string ⟨#[97, 115, 115, 111, 99]⟩, .nilFunc, .nilFunc, .func (.func 39) #[] #[], .nilFunc] 46)) k1
  have h2 := mF.c
  have h3 := mO.c
  have h4 := mO.f
  have h5 := mO.lt
  have MO := Lib.hid mO
  clear mF mO k1 hb
  go_wp2_with (go_at_call 39; ((with_reducible refine (C _).out.mono ?_); rintro e w2 ⟨rfl, rfl⟩))
  go_end0
  exact ⟨rfl, by rw [HS.out]; exact MO.out.set (i := 13) (by simp) _, grown_cell (grownB hbw B) 13 _⟩
end Go.Proofs.YtonhijonnonmbaaDoor
