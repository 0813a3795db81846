/-
  WALK: the set of an object's fields that are not zero.
-/
import Derived.Test.YtncahpbjbgcnbaaGreatDoorEO4
import Derived.KernelRfl
import Derived.Laws.EntriesVeiled
import Derived.Laws.BitsAllLaws
import Derived.Test.YtncahpbjbgcnbaaGreatDoorEO2
import Derived.Test.YtncahpbjbgcnbaaGreatDoorChecked
import Derived.WalkKit
import Derived.Below
import Derived.Lib.Hide
import Derived.IntWalk
import Derived.Deep.QuietTactic
import Derived.BigQuiet
import Derived.Test.YtncahpbjbgcnbaaGreatDoorEO0
namespace Go.Proofs.YtncahpbjbgcnbaaGreatDoor
open Go.RowKit
set_option maxRecDepth 100000
set_option linter.unusedVariables false

theorem idx0 (W : World) : Sem.run Tryz.prog (Instr.index 105 (.agg fieldsA) (.int .i64 0)) W = .ok fld0 W := by kernel_rfl
theorem idx1 (W : World) : Sem.run Tryz.prog (Instr.index 105 (.agg fieldsA) (.int .i64 1)) W = .ok fld1 W := by kernel_rfl
theorem idx2 (W : World) : Sem.run Tryz.prog (Instr.index 105 (.agg fieldsA) (.int .i64 2)) W = .ok fld2 W := by kernel_rfl
theorem idx3 (W : World) : Sem.run Tryz.prog (Instr.index 105 (.agg fieldsA) (.int .i64 3)) W = .ok fld3 W := by kernel_rfl
theorem idx4 (W : World) : Sem.run Tryz.prog (Instr.index 105 (.agg fieldsA) (.int .i64 4)) W = .ok fld4 W := by kernel_rfl
theorem idx5 (W : World) : Sem.run Tryz.prog (Instr.index 105 (.agg fieldsA) (.int .i64 5)) W = .ok fld5 W := by kernel_rfl
theorem idx6 (W : World) : Sem.run Tryz.prog (Instr.index 105 (.agg fieldsA) (.int .i64 6)) W = .ok fld6 W := by kernel_rfl
theorem idx7 (W : World) : Sem.run Tryz.prog (Instr.index 105 (.agg fieldsA) (.int .i64 7)) W = .ok fld7 W := by kernel_rfl
theorem idx8 (W : World) : Sem.run Tryz.prog (Instr.index 105 (.agg fieldsA) (.int .i64 8)) W = .ok fld8 W := by kernel_rfl
theorem idx9 (W : World) : Sem.run Tryz.prog (Instr.index 105 (.agg fieldsA) (.int .i64 9)) W = .ok fld9 W := by kernel_rfl
theorem idx10 (W : World) : Sem.run Tryz.prog (Instr.index 105 (.agg fieldsA) (.int .i64 10)) W = .ok fld10 W := by kernel_rfl
theorem idx11 (W : World) : Sem.run Tryz.prog (Instr.index 105 (.agg fieldsA) (.int .i64 11)) W = .ok fld11 W := by kernel_rfl
def zB (o : Ob) : Nat → Bool
  | 0 => o.parent.toList.isEmpty
  | 1 => (o.typ : Int) == 0
  | 2 => o.ref.toList.isEmpty
  | 3 => o.lo == 0
  | 4 => o.hi == 0
  | 5 => (o.digits : Int) == 0
  | 6 => boolI o.on == 0
  | 7 => boolI o.has == 0
  | 8 => o.value == 0
  | 9 => o.low == 0
  | 10 => o.high == 0
  | 11 => (o.assoc : Int) == 0
  | _ => true
def maskTo (o : Ob) : Nat → Nat
  | 0 => 0
  | n + 1 => if zB o n then maskTo o n else maskTo o n ||| 2 ^ n
theorem maskTo_lt (o : Ob) : ∀ n, maskTo o n < 2 ^ n
  | 0 => by simp [maskTo]
  | n + 1 => by
    have h := maskTo_lt o n
    unfold maskTo
    split
    · rw [Nat.pow_succ]; omega
    · exact Nat.or_lt_two_pow (by rw [Nat.pow_succ]; omega) (Nat.pow_lt_pow_right (by omega) (by omega))
set_option maxHeartbeats 8000000 in
theorem filled_any (o : Ob) (w : World) (h1 : o.typ ≤ 255) (h5 : o.digits ≤ 255) (h11 : o.assoc ≤ 255) : Calls Tryz.prog 72 #[ob o] w fun e w' => e = .returned (.int .u16 (maskTo o 12)) ∧ Below w.heap.size w w' := by
  have hb : Below w.heap.size w w := Below.refl _ _
  have CF := fun W => Lib.hid (fields_any W)
  go_enter Tryz.func72, Tryz.ntmps72
  go_wp2_with (go_at_call 92; ((with_reducible refine (CF _).out.mono ?_); rintro e w1 ⟨rfl, k1⟩; replace hb := bThen (bAl hb _) k1; have mO := (AtC.new _ _ _).then k1))
  go_loopw [3, 7] (fun m i wr => ∃ k : Nat, k ≤ 12 ∧ i = .int .i64 k ∧ m = .int .u16 (maskTo o k) ∧ AtC wr w.heap.size (obCells o) ∧ Below w.heap.size w wr) (fun _ i _ => 12 - (intOf i).toNat)
  case atStart => exact ⟨0, by omega, rfl, rfl, mO, hb⟩
  case round =>
    clear hb mO k1
    obtain ⟨k, hk, rfl, rfl, mO, hb⟩ := hrel
    by_cases hlt : k < 12
    · rcases (show k = 0 ∨ k = 1 ∨ k = 2 ∨ k = 3 ∨ k = 4 ∨ k = 5 ∨ k = 6 ∨ k = 7 ∨ k = 8 ∨ k = 9 ∨ k = 10 ∨ k = 11 by omega) with rfl | rfl | rfl | rfl | rfl | rfl | rfl | rfl | rfl | rfl | rfl | rfl
      · have C := Lib.hid (fun W h => zero0 o w.heap.size W h)
        have I := idx0
        have HM := Lib.hid (show maskTo o (0 + 1) = if o.parent.toList.isEmpty then maskTo o 0 else maskTo o 0 ||| 2 ^ 0 from rfl)
        have ML : Hid (maskTo o 0 < 65536) := Lib.hid (Nat.lt_of_lt_of_le (maskTo_lt o 0) (by decide))
        generalize o.parent.toList.isEmpty = z at *
        generalize maskTo o 0 = m at *
        clear CF hlt hk h1 h5 h11
        cases z
        · go_wp2_with (go_at_call 93; ((with_reducible refine (C.out _ (mO.al _)).mono ?_); rintro e w2 ⟨rfl, k3⟩; have mF := (AtC.new _ _ _).then k3; have fc := mF.c; replace mO := (mO.al _).then k3; replace hb := bThen (bAl hb _) k3))
          go_roundw
          case rel => exact ⟨1, by omega, rfl, congrArg (Value.int .u16) ((u16_or_nat m 1 ML.out (by omega)).trans (by rw [HM.out]; rfl)), mO, hb⟩
          case measure => simp [intOf]
        · go_wp2_with (go_at_call 93; ((with_reducible refine (C.out _ (mO.al _)).mono ?_); rintro e w2 ⟨rfl, k3⟩; replace mO := (mO.al _).then k3; replace hb := bThen (bAl hb _) k3))
          go_roundw
          case rel => exact ⟨1, by omega, rfl, congrArg (Value.int .u16) (by rw [HM.out]; rfl), mO, hb⟩
          case measure => simp [intOf]
      · have C := Lib.hid (fun W h => zero1 o w.heap.size W h h1)
        have I := idx1
        have HM := Lib.hid (show maskTo o (1 + 1) = if ((o.typ : Int) == 0) then maskTo o 1 else maskTo o 1 ||| 2 ^ 1 from rfl)
        have ML : Hid (maskTo o 1 < 65536) := Lib.hid (Nat.lt_of_lt_of_le (maskTo_lt o 1) (by decide))
        generalize ((o.typ : Int) == 0) = z at *
        generalize maskTo o 1 = m at *
        clear CF hlt hk h1 h5 h11
        cases z
        · go_wp2_with (go_at_call 93; ((with_reducible refine (C.out _ (mO.al _)).mono ?_); rintro e w2 ⟨rfl, k3⟩; have mF := (AtC.new _ _ _).then k3; have fc := mF.c; replace mO := (mO.al _).then k3; replace hb := bThen (bAl hb _) k3))
          go_roundw
          case rel => exact ⟨2, by omega, rfl, congrArg (Value.int .u16) ((u16_or_nat m 2 ML.out (by omega)).trans (by rw [HM.out]; rfl)), mO, hb⟩
          case measure => simp [intOf]
        · go_wp2_with (go_at_call 93; ((with_reducible refine (C.out _ (mO.al _)).mono ?_); rintro e w2 ⟨rfl, k3⟩; replace mO := (mO.al _).then k3; replace hb := bThen (bAl hb _) k3))
          go_roundw
          case rel => exact ⟨2, by omega, rfl, congrArg (Value.int .u16) (by rw [HM.out]; rfl), mO, hb⟩
          case measure => simp [intOf]
      · have C := Lib.hid (fun W h => zero2 o w.heap.size W h)
        have I := idx2
        have HM := Lib.hid (show maskTo o (2 + 1) = if o.ref.toList.isEmpty then maskTo o 2 else maskTo o 2 ||| 2 ^ 2 from rfl)
        have ML : Hid (maskTo o 2 < 65536) := Lib.hid (Nat.lt_of_lt_of_le (maskTo_lt o 2) (by decide))
        generalize o.ref.toList.isEmpty = z at *
        generalize maskTo o 2 = m at *
        clear CF hlt hk h1 h5 h11
        cases z
        · go_wp2_with (go_at_call 93; ((with_reducible refine (C.out _ (mO.al _)).mono ?_); rintro e w2 ⟨rfl, k3⟩; have mF := (AtC.new _ _ _).then k3; have fc := mF.c; replace mO := (mO.al _).then k3; replace hb := bThen (bAl hb _) k3))
          go_roundw
          case rel => exact ⟨3, by omega, rfl, congrArg (Value.int .u16) ((u16_or_nat m 4 ML.out (by omega)).trans (by rw [HM.out]; rfl)), mO, hb⟩
          case measure => simp [intOf]
        · go_wp2_with (go_at_call 93; ((with_reducible refine (C.out _ (mO.al _)).mono ?_); rintro e w2 ⟨rfl, k3⟩; replace mO := (mO.al _).then k3; replace hb := bThen (bAl hb _) k3))
          go_roundw
          case rel => exact ⟨3, by omega, rfl, congrArg (Value.int .u16) (by rw [HM.out]; rfl), mO, hb⟩
          case measure => simp [intOf]
      · have C := Lib.hid (fun W h => zero3 o w.heap.size W h)
        have I := idx3
        have HM := Lib.hid (show maskTo o (3 + 1) = if (o.lo == 0) then maskTo o 3 else maskTo o 3 ||| 2 ^ 3 from rfl)
        have ML : Hid (maskTo o 3 < 65536) := Lib.hid (Nat.lt_of_lt_of_le (maskTo_lt o 3) (by decide))
        generalize (o.lo == 0) = z at *
        generalize maskTo o 3 = m at *
        clear CF hlt hk h1 h5 h11
        cases z
        · go_wp2_with (go_at_call 93; ((with_reducible refine (C.out _ (mO.al _)).mono ?_); rintro e w2 ⟨rfl, k3⟩; have mF := (AtC.new _ _ _).then k3; have fc := mF.c; replace mO := (mO.al _).then k3; replace hb := bThen (bAl hb _) k3))
          go_roundw
          case rel => exact ⟨4, by omega, rfl, congrArg (Value.int .u16) ((u16_or_nat m 8 ML.out (by omega)).trans (by rw [HM.out]; rfl)), mO, hb⟩
          case measure => simp [intOf]
        · go_wp2_with (go_at_call 93; ((with_reducible refine (C.out _ (mO.al _)).mono ?_); rintro e w2 ⟨rfl, k3⟩; replace mO := (mO.al _).then k3; replace hb := bThen (bAl hb _) k3))
          go_roundw
          case rel => exact ⟨4, by omega, rfl, congrArg (Value.int .u16) (by rw [HM.out]; rfl), mO, hb⟩
          case measure => simp [intOf]
      · have C := Lib.hid (fun W h => zero4 o w.heap.size W h)
        have I := idx4
        have HM := Lib.hid (show maskTo o (4 + 1) = if (o.hi == 0) then maskTo o 4 else maskTo o 4 ||| 2 ^ 4 from rfl)
        have ML : Hid (maskTo o 4 < 65536) := Lib.hid (Nat.lt_of_lt_of_le (maskTo_lt o 4) (by decide))
        generalize (o.hi == 0) = z at *
        generalize maskTo o 4 = m at *
        clear CF hlt hk h1 h5 h11
        cases z
        · go_wp2_with (go_at_call 93; ((with_reducible refine (C.out _ (mO.al _)).mono ?_); rintro e w2 ⟨rfl, k3⟩; have mF := (AtC.new _ _ _).then k3; have fc := mF.c; replace mO := (mO.al _).then k3; replace hb := bThen (bAl hb _) k3))
          go_roundw
          case rel => exact ⟨5, by omega, rfl, congrArg (Value.int .u16) ((u16_or_nat m 16 ML.out (by omega)).trans (by rw [HM.out]; rfl)), mO, hb⟩
          case measure => simp [intOf]
        · go_wp2_with (go_at_call 93; ((with_reducible refine (C.out _ (mO.al _)).mono ?_); rintro e w2 ⟨rfl, k3⟩; replace mO := (mO.al _).then k3; replace hb := bThen (bAl hb _) k3))
          go_roundw
          case rel => exact ⟨5, by omega, rfl, congrArg (Value.int .u16) (by rw [HM.out]; rfl), mO, hb⟩
          case measure => simp [intOf]
      · have C := Lib.hid (fun W h => zero5 o w.heap.size W h h5)
        have I := idx5
        have HM := Lib.hid (show maskTo o (5 + 1) = if ((o.digits : Int) == 0) then maskTo o 5 else maskTo o 5 ||| 2 ^ 5 from rfl)
        have ML : Hid (maskTo o 5 < 65536) := Lib.hid (Nat.lt_of_lt_of_le (maskTo_lt o 5) (by decide))
        generalize ((o.digits : Int) == 0) = z at *
        generalize maskTo o 5 = m at *
        clear CF hlt hk h1 h5 h11
        cases z
        · go_wp2_with (go_at_call 93; ((with_reducible refine (C.out _ (mO.al _)).mono ?_); rintro e w2 ⟨rfl, k3⟩; have mF := (AtC.new _ _ _).then k3; have fc := mF.c; replace mO := (mO.al _).then k3; replace hb := bThen (bAl hb _) k3))
          go_roundw
          case rel => exact ⟨6, by omega, rfl, congrArg (Value.int .u16) ((u16_or_nat m 32 ML.out (by omega)).trans (by rw [HM.out]; rfl)), mO, hb⟩
          case measure => simp [intOf]
        · go_wp2_with (go_at_call 93; ((with_reducible refine (C.out _ (mO.al _)).mono ?_); rintro e w2 ⟨rfl, k3⟩; replace mO := (mO.al _).then k3; replace hb := bThen (bAl hb _) k3))
          go_roundw
          case rel => exact ⟨6, by omega, rfl, congrArg (Value.int .u16) (by rw [HM.out]; rfl), mO, hb⟩
          case measure => simp [intOf]
      · have C := Lib.hid (fun W h => zero6 o w.heap.size W h)
        have I := idx6
        have HM := Lib.hid (show maskTo o (6 + 1) = if (boolI o.on == 0) then maskTo o 6 else maskTo o 6 ||| 2 ^ 6 from rfl)
        have ML : Hid (maskTo o 6 < 65536) := Lib.hid (Nat.lt_of_lt_of_le (maskTo_lt o 6) (by decide))
        generalize (boolI o.on == 0) = z at *
        generalize maskTo o 6 = m at *
        clear CF hlt hk h1 h5 h11
        cases z
        · go_wp2_with (go_at_call 93; ((with_reducible refine (C.out _ (mO.al _)).mono ?_); rintro e w2 ⟨rfl, k3⟩; have mF := (AtC.new _ _ _).then k3; have fc := mF.c; replace mO := (mO.al _).then k3; replace hb := bThen (bAl hb _) k3))
          go_roundw
          case rel => exact ⟨7, by omega, rfl, congrArg (Value.int .u16) ((u16_or_nat m 64 ML.out (by omega)).trans (by rw [HM.out]; rfl)), mO, hb⟩
          case measure => simp [intOf]
        · go_wp2_with (go_at_call 93; ((with_reducible refine (C.out _ (mO.al _)).mono ?_); rintro e w2 ⟨rfl, k3⟩; replace mO := (mO.al _).then k3; replace hb := bThen (bAl hb _) k3))
          go_roundw
          case rel => exact ⟨7, by omega, rfl, congrArg (Value.int .u16) (by rw [HM.out]; rfl), mO, hb⟩
          case measure => simp [intOf]
      · have C := Lib.hid (fun W h => zero7 o w.heap.size W h)
        have I := idx7
        have HM := Lib.hid (show maskTo o (7 + 1) = if (boolI o.has == 0) then maskTo o 7 else maskTo o 7 ||| 2 ^ 7 from rfl)
        have ML : Hid (maskTo o 7 < 65536) := Lib.hid (Nat.lt_of_lt_of_le (maskTo_lt o 7) (by decide))
        generalize (boolI o.has == 0) = z at *
        generalize maskTo o 7 = m at *
        clear CF hlt hk h1 h5 h11
        cases z
        · go_wp2_with (go_at_call 93; ((with_reducible refine (C.out _ (mO.al _)).mono ?_); rintro e w2 ⟨rfl, k3⟩; have mF := (AtC.new _ _ _).then k3; have fc := mF.c; replace mO := (mO.al _).then k3; replace hb := bThen (bAl hb _) k3))
          go_roundw
          case rel => exact ⟨8, by omega, rfl, congrArg (Value.int .u16) ((u16_or_nat m 128 ML.out (by omega)).trans (by rw [HM.out]; rfl)), mO, hb⟩
          case measure => simp [intOf]
        · go_wp2_with (go_at_call 93; ((with_reducible refine (C.out _ (mO.al _)).mono ?_); rintro e w2 ⟨rfl, k3⟩; replace mO := (mO.al _).then k3; replace hb := bThen (bAl hb _) k3))
          go_roundw
          case rel => exact ⟨8, by omega, rfl, congrArg (Value.int .u16) (by rw [HM.out]; rfl), mO, hb⟩
          case measure => simp [intOf]
      · have C := Lib.hid (fun W h => zero8 o w.heap.size W h)
        have I := idx8
        have HM := Lib.hid (show maskTo o (8 + 1) = if (o.value == 0) then maskTo o 8 else maskTo o 8 ||| 2 ^ 8 from rfl)
        have ML : Hid (maskTo o 8 < 65536) := Lib.hid (Nat.lt_of_lt_of_le (maskTo_lt o 8) (by decide))
        generalize (o.value == 0) = z at *
        generalize maskTo o 8 = m at *
        clear CF hlt hk h1 h5 h11
        cases z
        · go_wp2_with (go_at_call 93; ((with_reducible refine (C.out _ (mO.al _)).mono ?_); rintro e w2 ⟨rfl, k3⟩; have mF := (AtC.new _ _ _).then k3; have fc := mF.c; replace mO := (mO.al _).then k3; replace hb := bThen (bAl hb _) k3))
          go_roundw
          case rel => exact ⟨9, by omega, rfl, congrArg (Value.int .u16) ((u16_or_nat m 256 ML.out (by omega)).trans (by rw [HM.out]; rfl)), mO, hb⟩
          case measure => simp [intOf]
        · go_wp2_with (go_at_call 93; ((with_reducible refine (C.out _ (mO.al _)).mono ?_); rintro e w2 ⟨rfl, k3⟩; replace mO := (mO.al _).then k3; replace hb := bThen (bAl hb _) k3))
          go_roundw
          case rel => exact ⟨9, by omega, rfl, congrArg (Value.int .u16) (by rw [HM.out]; rfl), mO, hb⟩
          case measure => simp [intOf]
      · have C := Lib.hid (fun W h => zero9 o w.heap.size W h)
        have I := idx9
        have HM := Lib.hid (show maskTo o (9 + 1) = if (o.low == 0) then maskTo o 9 else maskTo o 9 ||| 2 ^ 9 from rfl)
        have ML : Hid (maskTo o 9 < 65536) := Lib.hid (Nat.lt_of_lt_of_le (maskTo_lt o 9) (by decide))
        generalize (o.low == 0) = z at *
        generalize maskTo o 9 = m at *
        clear CF hlt hk h1 h5 h11
        cases z
        · go_wp2_with (go_at_call 93; ((with_reducible refine (C.out _ (mO.al _)).mono ?_); rintro e w2 ⟨rfl, k3⟩; have mF := (AtC.new _ _ _).then k3; have fc := mF.c; replace mO := (mO.al _).then k3; replace hb := bThen (bAl hb _) k3))
          go_roundw
          case rel => exact ⟨10, by omega, rfl, congrArg (Value.int .u16) ((u16_or_nat m 512 ML.out (by omega)).trans (by rw [HM.out]; rfl)), mO, hb⟩
          case measure => simp [intOf]
        · go_wp2_with (go_at_call 93; ((with_reducible refine (C.out _ (mO.al _)).mono ?_); rintro e w2 ⟨rfl, k3⟩; replace mO := (mO.al _).then k3; replace hb := bThen (bAl hb _) k3))
          go_roundw
          case rel => exact ⟨10, by omega, rfl, congrArg (Value.int .u16) (by rw [HM.out]; rfl), mO, hb⟩
          case measure => simp [intOf]
      · have C := Lib.hid (fun W h => zero10 o w.heap.size W h)
        have I := idx10
        have HM := Lib.hid (show maskTo o (10 + 1) = if (o.high == 0) then maskTo o 10 else maskTo o 10 ||| 2 ^ 10 from rfl)
        have ML : Hid (maskTo o 10 < 65536) := Lib.hid (Nat.lt_of_lt_of_le (maskTo_lt o 10) (by decide))
        generalize (o.high == 0) = z at *
        generalize maskTo o 10 = m at *
        clear CF hlt hk h1 h5 h11
        cases z
        · go_wp2_with (go_at_call 93; ((with_reducible refine (C.out _ (mO.al _)).mono ?_); rintro e w2 ⟨rfl, k3⟩; have mF := (AtC.new _ _ _).then k3; have fc := mF.c; replace mO := (mO.al _).then k3; replace hb := bThen (bAl hb _) k3))
          go_roundw
          case rel => exact ⟨11, by omega, rfl, congrArg (Value.int .u16) ((u16_or_nat m 1024 ML.out (by omega)).trans (by rw [HM.out]; rfl)), mO, hb⟩
          case measure => simp [intOf]
        · go_wp2_with (go_at_call 93; ((with_reducible refine (C.out _ (mO.al _)).mono ?_); rintro e w2 ⟨rfl, k3⟩; replace mO := (mO.al _).then k3; replace hb := bThen (bAl hb _) k3))
          go_roundw
          case rel => exact ⟨11, by omega, rfl, congrArg (Value.int .u16) (by rw [HM.out]; rfl), mO, hb⟩
          case measure => simp [intOf]
      · have C := Lib.hid (fun W h => zero11 o w.heap.size W h h11)
        have I := idx11
        have HM := Lib.hid (show maskTo o (11 + 1) = if ((o.assoc : Int) == 0) then maskTo o 11 else maskTo o 11 ||| 2 ^ 11 from rfl)
        have ML : Hid (maskTo o 11 < 65536) := Lib.hid (Nat.lt_of_lt_of_le (maskTo_lt o 11) (by decide))
        generalize ((o.assoc : Int) == 0) = z at *
        generalize maskTo o 11 = m at *
        clear CF hlt hk h1 h5 h11
        cases z
        · go_wp2_with (go_at_call 93; ((with_reducible refine (C.out _ (mO.al _)).mono ?_); rintro e w2 ⟨rfl, k3⟩; have mF := (AtC.new _ _ _).then k3; have fc := mF.c; replace mO := (mO.al _).then k3; replace hb := bThen (bAl hb _) k3))
          go_roundw
          case rel => exact ⟨12, by omega, rfl, congrArg (Value.int .u16) ((u16_or_nat m 2048 ML.out (by omega)).trans (by rw [HM.out]; rfl)), mO, hb⟩
          case measure => simp [intOf]
        · go_wp2_with (go_at_call 93; ((with_reducible refine (C.out _ (mO.al _)).mono ?_); rintro e w2 ⟨rfl, k3⟩; replace mO := (mO.al _).then k3; replace hb := bThen (bAl hb _) k3))
          go_roundw
          case rel => exact ⟨12, by omega, rfl, congrArg (Value.int .u16) (by rw [HM.out]; rfl), mO, hb⟩
          case measure => simp [intOf]
    · obtain rfl : k = 12 := by omega
      go_wp2
      go_ret
      exact ⟨rfl, hb⟩
end Go.Proofs.YtncahpbjbgcnbaaGreatDoor
/-
  WALKS: the document's Refers, Word, Bare, Only.
-/
namespace Go.Proofs.YtncahpbjbgcnbaaGreatDoor
open Go.RowKit
set_option maxRecDepth 100000
set_option linter.unusedVariables false

def refersB (k : Nat) : Bool := decide (k = 6 ∨ k = 7 ∨ k = 8)
theorem refRefers_any (k : Nat) (w : World) (hk : k ≤ 255) : Calls Tryz.prog 126 #[.int .u8 k] w fun e w' => e = .returned (.bool (refersB k)) ∧ w = w' := by
  have HV : Hid (refersB k = (decide (k = 6) || (decide (k = 7) || decide (k = 8)))) := Lib.hid (by unfold refersB; simp)
  by_cases h6 : k = 6
  · subst h6
    go_enter Tryz.func126, Tryz.ntmps126
    go_wp2
    go_ret
    exact ⟨by rfl, rfl⟩
  · by_cases h7 : k = 7
    · subst h7
      go_enter Tryz.func126, Tryz.ntmps126
      go_wp2
      go_ret
      exact ⟨by rfl, rfl⟩
    · by_cases h8 : k = 8
      · subst h8
        go_enter Tryz.func126, Tryz.ntmps126
        go_wp2
        go_ret
        exact ⟨by rfl, rfl⟩
      · have e : refersB k = false := by unfold refersB; simp; omega
        have HE := Lib.hid e
        have i6 : ¬ (k : Int) = 6 := by omega
        have i7 : ¬ (k : Int) = 7 := by omega
        have i8 : ¬ (k : Int) = 8 := by omega
        clear h6 h7 h8 e HV
        go_enter Tryz.func126, Tryz.ntmps126
        go_wp2
        go_ret
        exact ⟨by rw [HE.out]; simp [*], rfl⟩
def wordOf (k : Nat) : ByteArray := match k with
  | 1 => ⟨#[109, 100, 115]⟩ | 2 => ⟨#[118, 109, 100]⟩ | 3 => ⟨#[99, 104, 97, 110, 110, 101, 108]⟩ | 4 => ⟨#[109, 101, 116, 114, 105, 99]⟩ | 5 => ⟨#[115, 121, 115, 116, 101, 109]⟩
  | 6 => ⟨#[99, 111, 110, 100, 105, 116, 105, 111, 110]⟩ | 7 => ⟨#[115, 105, 103, 110, 97, 108]⟩ | 8 => ⟨#[108, 105, 109, 105, 116]⟩ | 9 => ⟨#[99, 111, 110, 116, 101, 120, 116]⟩ | _ => ⟨#[]⟩
theorem word_none {k : Nat} (h : k = 0 ∨ 9 < k) : wordOf k = ⟨#[]⟩ := by
  unfold wordOf
  split <;> first | rfl | omega
set_option maxHeartbeats 4000000 in
theorem refWord_any (k : Nat) (w : World) (hk : k ≤ 255) : Calls Tryz.prog 124 #[.int .u8 k] w fun e w' => e = .returned (.string (wordOf k)) ∧ Below w.heap.size w w' := by
  have hb : Below w.heap.size w w := Below.refl _ _
  rcases (show k = 1 ∨ k = 2 ∨ k = 3 ∨ k = 4 ∨ k = 5 ∨ k = 6 ∨ k = 7 ∨ k = 8 ∨ k = 9 ∨ (k = 0 ∨ 9 < k) by omega) with rfl | rfl | rfl | rfl | rfl | rfl | rfl | rfl | rfl | h
  case inr.inr.inr.inr.inr.inr.inr.inr.inr =>
    have HW := Lib.hid (word_none h)
    rcases h with rfl | h
    · go_enter Tryz.func124, Tryz.ntmps124
      go_wp2
      go_ret
      exact ⟨by rw [HW.out]; rfl, bAl hb _⟩
    · have h1 : ¬ (k : Int) < 1 := by omega
      have h2 : (9 : Int) < k := by omega
      go_enter Tryz.func124, Tryz.ntmps124
      go_wp2
      go_ret
      exact ⟨by rw [HW.out]; rfl, bAl hb _⟩
  all_goals
    go_enter Tryz.func124, Tryz.ntmps124
    go_wp2
    go_ret
    exact ⟨by rfl, bAl hb _⟩
theorem refBare_any (o : Ob) (w : World) : Calls Tryz.prog 85 #[ob o] w fun e w' => e = .returned (ob (stateOf o zeroOb)) ∧ Below w.heap.size w w' := by
  have hb : Below w.heap.size w w := Below.refl _ _
  have C := fun W => Lib.hid (show Calls Tryz.prog 39 #[ob o, .agg #[.string ⟨#[]⟩, .int .u8 0, .string ⟨#[]⟩, .int .u8 0, .string ⟨#[]⟩, .int .i64 0, .int .i64 0, .int .u8 0, .bool false, .bool false, .int .i64 0, .int .i64 0, .int .i64 0, .int .u8 0]] W fun e w' => e = .returned (ob (stateOf o zeroOb)) ∧ Below W.heap.size W w' from refState_any o zeroOb W)
  go_enter Tryz.func85, Tryz.ntmps85
  go_wp2_with (go_at_call 39; ((with_reducible refine (C _).out.mono ?_); rintro e w1 ⟨rfl, k1⟩; replace hb := bThen (bAl (bAl hb _) _) k1; have mR := (AtC.new _ _ _).then k1; simp at mR; have rc := mR.c; have rf := mR.f; have rl := mR.lt))
  exact ret_ob rfl rfl rfl (AtC.fill mR rfl _ _ _ _ _ _ _ _ _ _ _ _ _ _) ⟨rfl, bFill hb (by omega) _ _ _ _ _ _ _ _ _ _ _ _ _ _⟩
theorem refOnly_any (o : Ob) (w : World) : Calls Tryz.prog 87 #[ob o] w fun e w' => e = .returned (ob (descOf o zeroOb)) ∧ Below w.heap.size w w' := by
  have hb : Below w.heap.size w w := Below.refl _ _
  have C := fun W => Lib.hid (show Calls Tryz.prog 38 #[ob o, .agg #[.string ⟨#[]⟩, .int .u8 0, .string ⟨#[]⟩, .int .u8 0, .string ⟨#[]⟩, .int .i64 0, .int .i64 0, .int .u8 0, .bool false, .bool false, .int .i64 0, .int .i64 0, .int .i64 0, .int .u8 0]] W fun e w' => e = .returned (ob (descOf o zeroOb)) ∧ Below W.heap.size W w' from refDesc_any o zeroOb W)
  go_enter Tryz.func87, Tryz.ntmps87
  go_wp2_with (go_at_call 38; ((with_reducible refine (C _).out.mono ?_); rintro e w1 ⟨rfl, k1⟩; replace hb := bThen (bAl (bAl hb _) _) k1; have mR := (AtC.new _ _ _).then k1; simp at mR; have rc := mR.c; have rf := mR.f; have rl := mR.lt))
  exact ret_ob rfl rfl rfl (AtC.fill mR rfl _ _ _ _ _ _ _ _ _ _ _ _ _ _) ⟨rfl, bFill hb (by omega) _ _ _ _ _ _ _ _ _ _ _ _ _ _⟩
end Go.Proofs.YtncahpbjbgcnbaaGreatDoor
/-
  WALK: the document's trim.
-/
namespace Go.Proofs.YtncahpbjbgcnbaaGreatDoor
open Go.RowKit
set_option maxRecDepth 100000
set_option linter.unusedVariables false

def trimOf (o : Ob) : Ob where
  handle := o.handle
  kind := o.kind
  parent := if o.kind = 1 then ⟨#[]⟩ else o.parent
  typ := if o.kind = 6 ∨ o.kind = 8 ∨ o.kind = 9 then o.typ else 0
  ref := if o.kind = 6 ∨ o.kind = 7 ∨ o.kind = 8 then o.ref else ⟨#[]⟩
  lo := if o.kind = 4 then o.lo else 0
  hi := if o.kind = 4 then o.hi else 0
  digits := if o.kind = 4 then o.digits else 0
  on := if o.kind = 5 ∨ o.kind = 6 ∨ o.kind = 7 ∨ o.kind = 8 then o.on else false
  has := if o.kind = 4 then o.has else false
  value := if o.kind = 4 then o.value else 0
  low := if o.kind = 8 then o.low else 0
  high := if o.kind = 8 then o.high else 0
  assoc := if o.kind = 9 then o.assoc else 0

set_option maxHeartbeats 4000000 in
theorem refTrim_1 (h : ByteArray) (p : ByteArray) (t : Nat) (r : ByteArray) (lo hi : Int) (dg : Nat) (on has : Bool) (v lw hg : Int) (ac : Nat) (w : World) : Calls Tryz.prog 125 #[ob ⟨h, 1, p, t, r, lo, hi, dg, on, has, v, lw, hg, ac⟩] w fun e w' => e = .returned (ob ⟨h, 1, ⟨#[]⟩, 0, ⟨#[]⟩, 0, 0, 0, false, false, 0, 0, 0, 0⟩) ∧ Below w.heap.size w w' := by
  have hb : Below w.heap.size w w := Below.refl _ _
  go_enter Tryz.func125, Tryz.ntmps125
  go_wp2
  refine ret_ob (o := ⟨h, 1, ⟨#[]⟩, 0, ⟨#[]⟩, 0, 0, 0, false, false, 0, 0, 0, 0⟩) rfl rfl rfl ?_ ⟨rfl, bAl (bAl (bAl hb _) _) _⟩
  exact AtC.al (AtC.newAt (by simp)) _
set_option maxHeartbeats 4000000 in
theorem refTrim_2 (h : ByteArray) (p : ByteArray) (t : Nat) (r : ByteArray) (lo hi : Int) (dg : Nat) (on has : Bool) (v lw hg : Int) (ac : Nat) (w : World) : Calls Tryz.prog 125 #[ob ⟨h, 2, p, t, r, lo, hi, dg, on, has, v, lw, hg, ac⟩] w fun e w' => e = .returned (ob ⟨h, 2, p, 0, ⟨#[]⟩, 0, 0, 0, false, false, 0, 0, 0, 0⟩) ∧ Below w.heap.size w w' := by
  have hb : Below w.heap.size w w := Below.refl _ _
  go_enter Tryz.func125, Tryz.ntmps125
  go_wp2
  refine ret_ob (o := ⟨h, 2, p, 0, ⟨#[]⟩, 0, 0, 0, false, false, 0, 0, 0, 0⟩) rfl rfl rfl ?_ ⟨rfl, bAl (bAl (bAl hb _) _) _⟩
  exact AtC.al (AtC.newAt (by simp)) _
set_option maxHeartbeats 4000000 in
theorem refTrim_3 (h : ByteArray) (p : ByteArray) (t : Nat) (r : ByteArray) (lo hi : Int) (dg : Nat) (on has : Bool) (v lw hg : Int) (ac : Nat) (w : World) : Calls Tryz.prog 125 #[ob ⟨h, 3, p, t, r, lo, hi, dg, on, has, v, lw, hg, ac⟩] w fun e w' => e = .returned (ob ⟨h, 3, p, 0, ⟨#[]⟩, 0, 0, 0, false, false, 0, 0, 0, 0⟩) ∧ Below w.heap.size w w' := by
  have hb : Below w.heap.size w w := Below.refl _ _
  go_enter Tryz.func125, Tryz.ntmps125
  go_wp2
  refine ret_ob (o := ⟨h, 3, p, 0, ⟨#[]⟩, 0, 0, 0, false, false, 0, 0, 0, 0⟩) rfl rfl rfl ?_ ⟨rfl, bAl (bAl (bAl hb _) _) _⟩
  exact AtC.al (AtC.newAt (by simp)) _
set_option maxHeartbeats 4000000 in
theorem refTrim_4 (h : ByteArray) (p : ByteArray) (t : Nat) (r : ByteArray) (lo hi : Int) (dg : Nat) (on has : Bool) (v lw hg : Int) (ac : Nat) (w : World) : Calls Tryz.prog 125 #[ob ⟨h, 4, p, t, r, lo, hi, dg, on, has, v, lw, hg, ac⟩] w fun e w' => e = .returned (ob ⟨h, 4, p, 0, ⟨#[]⟩, lo, hi, dg, false, has, v, 0, 0, 0⟩) ∧ Below w.heap.size w w' := by
  have hb : Below w.heap.size w w := Below.refl _ _
  go_enter Tryz.func125, Tryz.ntmps125
  go_wp2
  go_region
  go_wp2
  refine ret_ob (o := ⟨h, 4, p, 0, ⟨#[]⟩, lo, hi, dg, false, has, v, 0, 0, 0⟩) rfl rfl rfl ?_ ⟨rfl, (bAl (bAl (bAl hb _) _) _).drew⟩
  exact AtC.drew1 (AtC.al (AtC.newAt (by simp)) _)
set_option maxHeartbeats 4000000 in
theorem refTrim_5 (h : ByteArray) (p : ByteArray) (t : Nat) (r : ByteArray) (lo hi : Int) (dg : Nat) (on has : Bool) (v lw hg : Int) (ac : Nat) (w : World) : Calls Tryz.prog 125 #[ob ⟨h, 5, p, t, r, lo, hi, dg, on, has, v, lw, hg, ac⟩] w fun e w' => e = .returned (ob ⟨h, 5, p, 0, ⟨#[]⟩, 0, 0, 0, on, false, 0, 0, 0, 0⟩) ∧ Below w.heap.size w w' := by
  have hb : Below w.heap.size w w := Below.refl _ _
  go_enter Tryz.func125, Tryz.ntmps125
  go_wp2
  refine ret_ob (o := ⟨h, 5, p, 0, ⟨#[]⟩, 0, 0, 0, on, false, 0, 0, 0, 0⟩) rfl rfl rfl ?_ ⟨rfl, bAl (bAl (bAl hb _) _) _⟩
  exact AtC.al (AtC.newAt (by simp)) _
set_option maxHeartbeats 4000000 in
theorem refTrim_6 (h : ByteArray) (p : ByteArray) (t : Nat) (r : ByteArray) (lo hi : Int) (dg : Nat) (on has : Bool) (v lw hg : Int) (ac : Nat) (w : World) : Calls Tryz.prog 125 #[ob ⟨h, 6, p, t, r, lo, hi, dg, on, has, v, lw, hg, ac⟩] w fun e w' => e = .returned (ob ⟨h, 6, p, t, r, 0, 0, 0, on, false, 0, 0, 0, 0⟩) ∧ Below w.heap.size w w' := by
  have hb : Below w.heap.size w w := Below.refl _ _
  go_enter Tryz.func125, Tryz.ntmps125
  go_wp2
  refine ret_ob (o := ⟨h, 6, p, t, r, 0, 0, 0, on, false, 0, 0, 0, 0⟩) rfl rfl rfl ?_ ⟨rfl, bAl (bAl (bAl hb _) _) _⟩
  exact AtC.al (AtC.newAt (by simp)) _
set_option maxHeartbeats 4000000 in
theorem refTrim_7 (h : ByteArray) (p : ByteArray) (t : Nat) (r : ByteArray) (lo hi : Int) (dg : Nat) (on has : Bool) (v lw hg : Int) (ac : Nat) (w : World) : Calls Tryz.prog 125 #[ob ⟨h, 7, p, t, r, lo, hi, dg, on, has, v, lw, hg, ac⟩] w fun e w' => e = .returned (ob ⟨h, 7, p, 0, r, 0, 0, 0, on, false, 0, 0, 0, 0⟩) ∧ Below w.heap.size w w' := by
  have hb : Below w.heap.size w w := Below.refl _ _
  go_enter Tryz.func125, Tryz.ntmps125
  go_wp2
  refine ret_ob (o := ⟨h, 7, p, 0, r, 0, 0, 0, on, false, 0, 0, 0, 0⟩) rfl rfl rfl ?_ ⟨rfl, bAl (bAl (bAl hb _) _) _⟩
  exact AtC.al (AtC.newAt (by simp)) _
set_option maxHeartbeats 4000000 in
theorem refTrim_8 (h : ByteArray) (p : ByteArray) (t : Nat) (r : ByteArray) (lo hi : Int) (dg : Nat) (on has : Bool) (v lw hg : Int) (ac : Nat) (w : World) : Calls Tryz.prog 125 #[ob ⟨h, 8, p, t, r, lo, hi, dg, on, has, v, lw, hg, ac⟩] w fun e w' => e = .returned (ob ⟨h, 8, p, t, r, 0, 0, 0, on, false, 0, lw, hg, 0⟩) ∧ Below w.heap.size w w' := by
  have hb : Below w.heap.size w w := Below.refl _ _
  go_enter Tryz.func125, Tryz.ntmps125
  go_wp2
  go_region
  go_wp2
  refine ret_ob (o := ⟨h, 8, p, t, r, 0, 0, 0, on, false, 0, lw, hg, 0⟩) rfl rfl rfl ?_ ⟨rfl, (bAl (bAl (bAl hb _) _) _).drew⟩
  exact AtC.drew1 (AtC.al (AtC.newAt (by simp)) _)
set_option maxHeartbeats 4000000 in
theorem refTrim_9 (h : ByteArray) (p : ByteArray) (t : Nat) (r : ByteArray) (lo hi : Int) (dg : Nat) (on has : Bool) (v lw hg : Int) (ac : Nat) (w : World) : Calls Tryz.prog 125 #[ob ⟨h, 9, p, t, r, lo, hi, dg, on, has, v, lw, hg, ac⟩] w fun e w' => e = .returned (ob ⟨h, 9, p, t, ⟨#[]⟩, 0, 0, 0, false, false, 0, 0, 0, ac⟩) ∧ Below w.heap.size w w' := by
  have hb : Below w.heap.size w w := Below.refl _ _
  go_enter Tryz.func125, Tryz.ntmps125
  go_wp2
  refine ret_ob (o := ⟨h, 9, p, t, ⟨#[]⟩, 0, 0, 0, false, false, 0, 0, 0, ac⟩) rfl rfl rfl ?_ ⟨rfl, bAl (bAl (bAl hb _) _) _⟩
  exact AtC.al (AtC.newAt (by simp)) _
set_option maxHeartbeats 4000000 in
theorem refTrim_0 (h : ByteArray) (k : Nat) (p : ByteArray) (t : Nat) (r : ByteArray) (lo hi : Int) (dg : Nat) (on has : Bool) (v lw hg : Int) (ac : Nat) (w : World) (hk : k = 0 ∨ 9 < k) : Calls Tryz.prog 125 #[ob ⟨h, k, p, t, r, lo, hi, dg, on, has, v, lw, hg, ac⟩] w fun e w' => e = .returned (ob ⟨h, k, p, 0, ⟨#[]⟩, 0, 0, 0, false, false, 0, 0, 0, 0⟩) ∧ Below w.heap.size w w' := by
  have hb : Below w.heap.size w w := Below.refl _ _
  have i1 : ¬ (k : Int) = 1 := by omega
  have i4 : ¬ (k : Int) = 4 := by omega
  have i5 : ¬ (k : Int) = 5 := by omega
  have i6 : ¬ (k : Int) = 6 := by omega
  have i7 : ¬ (k : Int) = 7 := by omega
  have i8 : ¬ (k : Int) = 8 := by omega
  have i9 : ¬ (k : Int) = 9 := by omega
  clear hk
  go_enter Tryz.func125, Tryz.ntmps125
  go_wp2
  refine ret_ob (o := ⟨h, k, p, 0, ⟨#[]⟩, 0, 0, 0, false, false, 0, 0, 0, 0⟩) rfl rfl rfl ?_ ⟨rfl, bAl (bAl (bAl hb _) _) _⟩
  exact AtC.al (AtC.newAt (by simp)) _
theorem refTrim_any (o : Ob) (w : World) (hk : o.kind ≤ 255) : Calls Tryz.prog 125 #[ob o] w fun e w' => e = .returned (ob (trimOf o)) ∧ Below w.heap.size w w' := by
  obtain ⟨h, k, p, t, r, lo, hi, dg, on, has, v, lw, hg, ac⟩ := o
  change k ≤ 255 at hk
  rcases (show k = 1 ∨ k = 2 ∨ k = 3 ∨ k = 4 ∨ k = 5 ∨ k = 6 ∨ k = 7 ∨ k = 8 ∨ k = 9 ∨ (k = 0 ∨ 9 < k) by omega) with rfl | rfl | rfl | rfl | rfl | rfl | rfl | rfl | rfl | hk2
  · rw [show trimOf ⟨h, 1, p, t, r, lo, hi, dg, on, has, v, lw, hg, ac⟩ = ⟨h, 1, ⟨#[]⟩, 0, ⟨#[]⟩, 0, 0, 0, false, false, 0, 0, 0, 0⟩ from by simp [trimOf]]
    exact refTrim_1 h p t r lo hi dg on has v lw hg ac w
  · rw [show trimOf ⟨h, 2, p, t, r, lo, hi, dg, on, has, v, lw, hg, ac⟩ = ⟨h, 2, p, 0, ⟨#[]⟩, 0, 0, 0, false, false, 0, 0, 0, 0⟩ from by simp [trimOf]]
    exact refTrim_2 h p t r lo hi dg on has v lw hg ac w
  · rw [show trimOf ⟨h, 3, p, t, r, lo, hi, dg, on, has, v, lw, hg, ac⟩ = ⟨h, 3, p, 0, ⟨#[]⟩, 0, 0, 0, false, false, 0, 0, 0, 0⟩ from by simp [trimOf]]
    exact refTrim_3 h p t r lo hi dg on has v lw hg ac w
  · rw [show trimOf ⟨h, 4, p, t, r, lo, hi, dg, on, has, v, lw, hg, ac⟩ = ⟨h, 4, p, 0, ⟨#[]⟩, lo, hi, dg, false, has, v, 0, 0, 0⟩ from by simp [trimOf]]
    exact refTrim_4 h p t r lo hi dg on has v lw hg ac w
  · rw [show trimOf ⟨h, 5, p, t, r, lo, hi, dg, on, has, v, lw, hg, ac⟩ = ⟨h, 5, p, 0, ⟨#[]⟩, 0, 0, 0, on, false, 0, 0, 0, 0⟩ from by simp [trimOf]]
    exact refTrim_5 h p t r lo hi dg on has v lw hg ac w
  · rw [show trimOf ⟨h, 6, p, t, r, lo, hi, dg, on, has, v, lw, hg, ac⟩ = ⟨h, 6, p, t, r, 0, 0, 0, on, false, 0, 0, 0, 0⟩ from by simp [trimOf]]
    exact refTrim_6 h p t r lo hi dg on has v lw hg ac w
  · rw [show trimOf ⟨h, 7, p, t, r, lo, hi, dg, on, has, v, lw, hg, ac⟩ = ⟨h, 7, p, 0, r, 0, 0, 0, on, false, 0, 0, 0, 0⟩ from by simp [trimOf]]
    exact refTrim_7 h p t r lo hi dg on has v lw hg ac w
  · rw [show trimOf ⟨h, 8, p, t, r, lo, hi, dg, on, has, v, lw, hg, ac⟩ = ⟨h, 8, p, t, r, 0, 0, 0, on, false, 0, lw, hg, 0⟩ from by simp [trimOf]]
    exact refTrim_8 h p t r lo hi dg on has v lw hg ac w
  · rw [show trimOf ⟨h, 9, p, t, r, lo, hi, dg, on, has, v, lw, hg, ac⟩ = ⟨h, 9, p, t, ⟨#[]⟩, 0, 0, 0, false, false, 0, 0, 0, ac⟩ from by simp [trimOf]]
    exact refTrim_9 h p t r lo hi dg on has v lw hg ac w
  · rw [show trimOf ⟨h, k, p, t, r, lo, hi, dg, on, has, v, lw, hg, ac⟩ = ⟨h, k, p, 0, ⟨#[]⟩, 0, 0, 0, false, false, 0, 0, 0, 0⟩ from by simp only [trimOf]; simp [show ¬ k = 1 by omega, show ¬ k = 4 by omega, show ¬ k = 5 by omega, show ¬ k = 6 by omega, show ¬ k = 7 by omega, show ¬ k = 8 by omega, show ¬ k = 9 by omega]]
    exact refTrim_0 h k p t r lo hi dg on has v lw hg ac w hk2
end Go.Proofs.YtncahpbjbgcnbaaGreatDoor
/-
  PLAIN MATHEMATICS: decimal digits of naturals as bytes, the text of a fixed-point number, what a reading of a text gives. No dump.
-/
namespace Go.Proofs.YtncahpbjbgcnbaaGreatDoor.FixMath

abbrev Bs := List UInt8

/-- The digit of the ones. -/
def dig (n : Nat) : UInt8 := UInt8.ofNat (48 + n % 10)

theorem dig_toNat (n : Nat) : (dig n).toNat = 48 + n % 10 := by
  unfold dig
  rw [UInt8.toNat_ofNat']
  omega

/-- The lowest k digits of n. -/
def low : Nat → Nat → Bs
  | 0, _ => []
  | k + 1, n => dig (n / 10 ^ k) :: low k n

theorem low_length (k n : Nat) : (low k n).length = k := by
  induction k with
  | zero => rfl
  | succ k ih => simp [low, ih]

theorem low_zero (n : Nat) : low 0 n = [] := rfl
theorem low_succ (k n : Nat) : low (k + 1) n = dig (n / 10 ^ k) :: low k n := rfl

theorem div_pow_succ (n k : Nat) : n / 10 ^ k / 10 = n / 10 ^ (k + 1) := by
  rw [Nat.div_div_eq_div_mul, Nat.pow_succ]

theorem pow_pos' (k : Nat) : 0 < 10 ^ k := Nat.pow_pos (by omega)

/-- Digits of the lower part are those of the whole. -/
theorem low_mod (k d n : Nat) (h : k ≤ d) : low k (n % 10 ^ d) = low k n := by
  induction k with
  | zero => rfl
  | succ k ih =>
    rw [low_succ, low_succ, ih (by omega)]
    have e : dig (n % 10 ^ d / 10 ^ k) = dig (n / 10 ^ k) := by
      unfold dig
      have e1 : n % 10 ^ d / 10 ^ k % 10 = n / 10 ^ k % 10 := by
        obtain ⟨j, rfl⟩ : ∃ j, d = k + 1 + j := ⟨d - (k + 1), by omega⟩
        have h2 : 10 ^ (k + 1 + j) = 10 ^ k * (10 * 10 ^ j) := by rw [Nat.pow_add, Nat.pow_succ, Nat.mul_assoc]
        rw [h2, Nat.mod_mul_right_div_self, Nat.mod_mul_right_mod]
      rw [e1]
    rw [e]

/-- How many digits n has, at least one. -/
def nd (n : Nat) : Nat := if h : n < 10 then 1 else nd (n / 10) + 1
termination_by n
decreasing_by omega

theorem nd_pos (n : Nat) : 1 ≤ nd n := by
  unfold nd
  split <;> omega

theorem nd_iff (j : Nat) : ∀ n, 1 ≤ j → (n / 10 ^ j = 0 ↔ nd n ≤ j) := by
  induction j with
  | zero => intro n h; omega
  | succ j ih =>
    intro n _
    rw [Nat.pow_succ, Nat.mul_comm, ← Nat.div_div_eq_div_mul]
    by_cases hn : n < 10
    · have e : n / 10 = 0 := by omega
      rw [e, Nat.zero_div]
      have : nd n = 1 := by unfold nd; rw [dif_pos hn]
      rw [this]
      constructor
      · intro _; omega
      · intro _; rfl
    · have e : nd n = nd (n / 10) + 1 := by rw [nd, dif_neg hn]
      rw [e]
      by_cases hj : j = 0
      · subst hj
        have := nd_pos (n / 10)
        simp
        omega
      · rw [ih (n / 10) (by omega)]
        omega

theorem nd_le {n j : Nat} (h1 : 1 ≤ j) (h : n < 10 ^ j) : nd n ≤ j := (nd_iff j n h1).1 (Nat.div_eq_of_lt h)
theorem lt_nd {n j : Nat} (h1 : 1 ≤ j) (h : j < nd n) : n / 10 ^ j ≠ 0 := fun e => by
  have := (nd_iff j n h1).1 e
  omega

/-- The text of a natural with d digits behind the dot. -/
def natText (n d : Nat) : Bs := low (nd (n / 10 ^ d)) (n / 10 ^ d) ++ (if d = 0 then [] else 46 :: low d n)

/-- The text of a number. -/
def fixText (n : Int) (d : Nat) : Bs := (if n < 0 then [45] else []) ++ natText n.natAbs d

theorem natText_length_le (n d : Nat) (hn : n ≤ 1000000000000000) (hd : d ≤ 6) : (natText n d).length ≤ 17 := by
  unfold natText
  rw [List.length_append, low_length]
  have h1 : nd (n / 10 ^ d) ≤ 16 - d := by
    apply nd_le (by omega)
    apply Nat.div_lt_of_lt_mul
    rw [← Nat.pow_add]
    have : d + (16 - d) = 16 := by omega
    rw [this]
    omega
  split
  · simp; omega
  · rw [List.length_cons, low_length]; omega
theorem fixText_length_le (n : Int) (d : Nat) (h1 : -1000000000000000 ≤ n) (h2 : n ≤ 1000000000000000) (hd : d ≤ 6) : (fixText n d).length ≤ 18 := by
  unfold fixText
  rw [List.length_append]
  have := natText_length_le n.natAbs d (by omega) hd
  split <;> simp <;> omega

/-! ## the value of digits -/
def val (l : Bs) : Nat := l.foldl (fun v c => 10 * v + (c.toNat - 48)) 0
def isDig (c : UInt8) : Bool := decide (48 ≤ c.toNat ∧ c.toNat ≤ 57)

theorem val_nil : val [] = 0 := rfl
theorem val_snoc (l : Bs) (c : UInt8) : val (l ++ [c]) = 10 * val l + (c.toNat - 48) := by
  unfold val; rw [List.foldl_append]; rfl
theorem foldl_val (l : Bs) : ∀ v, l.foldl (fun v c => 10 * v + (c.toNat - 48)) v = v * 10 ^ l.length + val l := by
  induction l with
  | nil => intro v; simp [val]
  | cons c l ih =>
    intro v
    unfold val
    rw [List.foldl_cons, List.foldl_cons, ih, ih (10 * 0 + (c.toNat - 48)), List.length_cons, Nat.pow_succ]
    have e : (10 * v + (c.toNat - 48)) * 10 ^ l.length = v * (10 ^ l.length * 10) + (10 * 0 + (c.toNat - 48)) * 10 ^ l.length := by
      rw [Nat.add_mul]
      have e2 : 10 * v * 10 ^ l.length = v * (10 ^ l.length * 10) := by
        rw [Nat.mul_comm 10 v, Nat.mul_assoc, Nat.mul_comm 10]
      rw [e2]
      simp
    rw [e]; omega
theorem val_append (a b : Bs) : val (a ++ b) = val a * 10 ^ b.length + val b := by
  show (a ++ b).foldl _ 0 = _
  rw [List.foldl_append, foldl_val b]; rfl
theorem val_cons (c : UInt8) (l : Bs) : val (c :: l) = (c.toNat - 48) * 10 ^ l.length + val l := by
  have := val_append [c] l
  simpa [val] using this

theorem val_low (k n : Nat) : val (low k n) = n % 10 ^ k := by
  induction k with
  | zero => simp [low, val, Nat.mod_one]
  | succ k ih =>
    rw [low_succ, val_cons, ih, low_length, dig_toNat, Nat.pow_succ, Nat.mod_mul]
    have : 48 + n / 10 ^ k % 10 - 48 = n / 10 ^ k % 10 := by omega
    rw [this, Nat.mul_comm]; omega

theorem val_lt (l : Bs) (h : ∀ c ∈ l, isDig c = true) : val l < 10 ^ l.length := by
  induction l with
  | nil => simp [val]
  | cons c l ih =>
    rw [val_cons, List.length_cons, Nat.pow_succ]
    have h1 := ih fun x hx => h x (List.mem_cons_of_mem _ hx)
    have h2 := h c (List.mem_cons_self ..)
    simp only [isDig, decide_eq_true_eq] at h2
    have h3 : (c.toNat - 48) * 10 ^ l.length ≤ 9 * 10 ^ l.length := Nat.mul_le_mul_right _ (by omega)
    omega

theorem isDig_dig (n : Nat) : isDig (dig n) = true := by
  simp only [isDig, decide_eq_true_eq, dig_toNat]; omega
theorem low_dig (k n : Nat) : ∀ c ∈ low k n, isDig c = true := by
  induction k with
  | zero => intro c h; cases h
  | succ k ih =>
    intro c h
    rw [low_succ] at h
    rcases List.mem_cons.1 h with e | e
    · rw [e]; exact isDig_dig _
    · exact ih c e

theorem dig_of {c : UInt8} (h : isDig c = true) {n : Nat} (e : n % 10 = c.toNat - 48) : dig n = c := by
  simp only [isDig, decide_eq_true_eq] at h
  apply UInt8.toNat_inj.1
  rw [dig_toNat]; omega

/-- The digits are those of their value. -/
theorem low_val (l : Bs) (h : ∀ c ∈ l, isDig c = true) (v : Nat) (hv : v % 10 ^ l.length = val l) : low l.length v = l := by
  induction l generalizing v with
  | nil => rfl
  | cons c l ih =>
    have hl := fun x hx => h x (List.mem_cons_of_mem c hx)
    have hc := h c (List.mem_cons_self ..)
    have hlt := val_lt l hl
    rw [val_cons, List.length_cons, Nat.pow_succ, Nat.mod_mul] at hv
    have hp := pow_pos' l.length
    have e1 : v / 10 ^ l.length % 10 = c.toNat - 48 ∧ v % 10 ^ l.length = val l := by
      have hm := Nat.mod_lt v hp
      have hcd := hc
      simp only [isDig, decide_eq_true_eq] at hcd
      have e2 : (v % 10 ^ l.length + 10 ^ l.length * (v / 10 ^ l.length % 10)) % 10 ^ l.length = ((c.toNat - 48) * 10 ^ l.length + val l) % 10 ^ l.length := by rw [hv]
      rw [Nat.add_mul_mod_self_left, Nat.mod_mod, Nat.mul_comm (c.toNat - 48), Nat.mul_add_mod, Nat.mod_eq_of_lt hlt] at e2
      refine ⟨?_, e2⟩
      rw [e2] at hv
      have e3 : 10 ^ l.length * (v / 10 ^ l.length % 10) = 10 ^ l.length * (c.toNat - 48) := by
        rw [Nat.mul_comm (c.toNat - 48)] at hv; omega
      exact Nat.eq_of_mul_eq_mul_left hp e3
    rw [List.length_cons, low_succ, ih hl v e1.2, dig_of hc e1.1]

theorem low_val' (l : Bs) (h : ∀ c ∈ l, isDig c = true) : low l.length (val l) = l := low_val l h _ (Nat.mod_eq_of_lt (val_lt l h))
theorem dig_ne_dot {c : UInt8} (h : isDig c = true) : c ≠ 46 ∧ c ≠ 45 := by
  simp only [isDig, decide_eq_true_eq] at h
  constructor <;> (intro e; subst e; revert h; decide)

/-- What is read: the digits, and the sign at the head. -/
def readN (l : Bs) : Nat := val (l.filter isDig)
def readZ (l : Bs) : Int := if l.head? = some 45 then -(readN l : Int) else readN l
def from_ (l : Bs) : Nat := if l.head? = some 45 then 1 else 0

theorem filter_digs {l : Bs} (h : ∀ c ∈ l, isDig c = true) : l.filter isDig = l := List.filter_eq_self.2 h

theorem nd_lt (n : Nat) : n < 10 ^ nd n := by
  have h := (nd_iff (nd n) n (nd_pos n)).2 (Nat.le_refl _)
  have := Nat.div_eq_zero_iff.1 h
  have hp := pow_pos' (nd n)
  omega

theorem val_nd (n : Nat) : val (low (nd n) n) = n := by rw [val_low, Nat.mod_eq_of_lt (nd_lt n)]

def part (d n : Nat) : Bs := if d = 0 then [] else 46 :: low d n
theorem natText_part (n d : Nat) : natText n d = low (nd (n / 10 ^ d)) (n / 10 ^ d) ++ part d n := rfl

theorem readN_natText (n d : Nat) : readN (natText n d) = n := by
  unfold readN natText
  rw [List.filter_append, filter_digs (low_dig _ _)]
  split
  · rename_i h
    subst h
    simp [val_nd]
  · rw [List.filter_cons_of_neg (by decide), filter_digs (low_dig _ _), val_append, val_nd, val_low, low_length, Nat.mul_comm]
    exact Nat.div_add_mod n (10 ^ d)

theorem natText_head (n d : Nat) : ∃ c t, natText n d = c :: t ∧ isDig c = true := by
  unfold natText
  obtain ⟨j, hj⟩ : ∃ j, nd (n / 10 ^ d) = j + 1 := ⟨nd (n / 10 ^ d) - 1, by have := nd_pos (n / 10 ^ d); omega⟩
  rw [hj, low_succ]
  exact ⟨_, _, rfl, isDig_dig _⟩

theorem fixText_from (n : Int) (d : Nat) : from_ (fixText n d) = (if n < 0 then 1 else 0) ∧ (fixText n d).drop (if n < 0 then 1 else 0) = natText n.natAbs d := by
  unfold from_ fixText
  obtain ⟨c, t, e, hc⟩ := natText_head n.natAbs d
  have := (dig_ne_dot hc).2
  split <;> simp [e, this]

theorem readZ_fixText (n : Int) (d : Nat) : readZ (fixText n d) = n := by
  unfold readZ fixText
  obtain ⟨c, t, e, hc⟩ := natText_head n.natAbs d
  have h45 := (dig_ne_dot hc).2
  have hr := readN_natText n.natAbs d
  by_cases hn : n < 0
  · rw [if_pos hn]
    have : readN ([45] ++ natText n.natAbs d) = readN (natText n.natAbs d) := by
      unfold readN
      rw [List.filter_append]
      rfl
    rw [this, hr]
    simp
    omega
  · rw [if_neg hn, List.nil_append, hr, e]
    simp [h45]
    omega

/-- s has a number whose text it is. -/
def Ok (l : Bs) (d : Nat) : Prop := ∃ n : Int, -1000000000000000 ≤ n ∧ n ≤ 1000000000000000 ∧ fixText n d = l
theorem ok_iff (l : Bs) (d : Nat) : Ok l d ↔ -1000000000000000 ≤ readZ l ∧ readZ l ≤ 1000000000000000 ∧ fixText (readZ l) d = l := by
  constructor
  · rintro ⟨n, h1, h2, rfl⟩
    rw [readZ_fixText]
    exact ⟨h1, h2, rfl⟩
  · rintro ⟨h1, h2, h3⟩
    exact ⟨_, h1, h2, h3⟩

/-- Of a text: its sign taken, digits, and behind a dot d more. -/
theorem ok_shape {l : Bs} {d : Nat} (h : Ok l d) : ∃ n : Nat, l.drop (from_ l) = natText n d ∧ n ≤ 1000000000000000 ∧ (from_ l = 1 → n ≠ 0) := by
  obtain ⟨n, h1, h2, rfl⟩ := h
  obtain ⟨e1, e2⟩ := fixText_from n d
  refine ⟨n.natAbs, by rw [e1, e2], by omega, ?_⟩
  rw [e1]
  split
  · intro _; omega
  · intro h; cases h

/-- What is behind the sign, up to i. -/
def seen (l : Bs) (i : Nat) : Bs := (l.take i).drop (from_ l)
theorem seen_all (l : Bs) : seen l l.length = l.drop (from_ l) := by unfold seen; rw [List.take_length]
theorem seen_from (l : Bs) : seen l (from_ l) = [] := by unfold seen; rw [List.drop_take, Nat.sub_self, List.take_zero]
theorem seen_succ {l : Bs} {i : Nat} (h : i < l.length) (hf : from_ l ≤ i) : seen l (i + 1) = seen l i ++ [l[i]] := by
  unfold seen
  rw [List.take_succ_eq_append_getElem h, List.drop_append_of_le_length]
  rw [List.length_take]; omega
theorem seen_mem {l : Bs} {i : Nat} (h : i < l.length) (hf : from_ l ≤ i) : l[i] ∈ l.drop (from_ l) := by
  have : l[i] = (l.drop (from_ l))[i - from_ l]'(by rw [List.length_drop]; omega) := by
    rw [List.getElem_drop]; congr 1; omega
  rw [this]; exact List.getElem_mem _
theorem seen_prefix (l : Bs) (i : Nat) : ∃ t, l.drop (from_ l) = seen l i ++ t := by
  refine ⟨(l.drop i).drop (from_ l - i), ?_⟩
  unfold seen
  generalize from_ l = f
  conv => lhs; rw [← List.take_append_drop i l]
  rw [List.drop_append]
  by_cases h : i ≤ l.length
  · rw [List.length_take, Nat.min_eq_left h]
  · have e : l.drop i = [] := List.drop_eq_nil_of_le (by omega)
    rw [e]; simp
theorem seen_length {l : Bs} {i : Nat} (h : i ≤ l.length) : (seen l i).length = i - from_ l := by
  unfold seen; rw [List.length_drop, List.length_take]; omega

/-- The state of the reading: no dot yet, or one. -/
def St (l : Bs) (i dot n : Nat) : Prop :=
  (dot = l.length ∧ (∀ c ∈ seen l i, isDig c = true) ∧ n = val (seen l i)) ∨
  (dot < l.length ∧ ∃ a b, seen l i = a ++ 46 :: b ∧ (∀ c ∈ a, isDig c = true) ∧ (∀ c ∈ b, isDig c = true) ∧ dot = from_ l + a.length ∧ n = val (a ++ b))

theorem St.start (l : Bs) : St l (from_ l) l.length 0 := Or.inl ⟨rfl, by rw [seen_from]; exact (fun c h => (nomatch h)), by rw [seen_from]; rfl⟩

theorem St.dot {l : Bs} {i n : Nat} (h : St l i l.length n) (hi : i < l.length) (hf : from_ l ≤ i) (hc : l[i] = 46) : St l (i + 1) i n := by
  rcases h with ⟨_, h1, h2⟩ | ⟨h, _⟩
  · refine Or.inr ⟨hi, seen l i, [], by rw [seen_succ hi hf, hc], h1, (fun c hc => (nomatch hc)), ?_, by rw [List.append_nil]; exact h2⟩
    rw [seen_length (by omega)]; omega
  · omega

theorem St.digit {l : Bs} {i dot n : Nat} (h : St l i dot n) (hi : i < l.length) (hf : from_ l ≤ i) (hc : isDig l[i] = true) : St l (i + 1) dot (10 * n + (l[i].toNat - 48)) := by
  have dd : ∀ {b : Bs}, (∀ c ∈ b, isDig c = true) → ∀ c ∈ b ++ [l[i]], isDig c = true := by
    intro b hb c h
    rcases List.mem_append.1 h with h | h
    · exact hb c h
    · rw [List.mem_singleton.1 h]; exact hc
  rcases h with ⟨h0, h1, h2⟩ | ⟨h0, a, b, h1, h2, h3, h4, h5⟩
  · refine Or.inl ⟨h0, ?_, ?_⟩
    · rw [seen_succ hi hf]; exact dd h1
    · rw [seen_succ hi hf, val_snoc, h2]
  · refine Or.inr ⟨h0, a, b ++ [l[i]], by rw [seen_succ hi hf, h1]; simp, h2, dd h3, h4, ?_⟩
    rw [← List.append_assoc, val_snoc, h5]

theorem St.small {l : Bs} {i dot n : Nat} (h : St l i dot n) (hi : i ≤ l.length) : n < 10 ^ i := by
  have up : ∀ k, k ≤ i → 10 ^ k ≤ 10 ^ i := fun k hk => Nat.pow_le_pow_right (by omega) hk
  have hs := seen_length hi
  rcases h with ⟨_, h1, h2⟩ | ⟨h0, a, b, h1, h2, h3, h4, h5⟩
  · have := val_lt _ h1
    have := up (seen l i).length (by omega)
    omega
  · have hab : ∀ c ∈ a ++ b, isDig c = true := by
      intro c h
      rcases List.mem_append.1 h with h | h
      · exact h2 c h
      · exact h3 c h
    have := val_lt _ hab
    rw [h1] at hs
    simp at hs
    have := up (a ++ b).length (by simp; omega)
    omega

theorem split_dot {a b a' b' : Bs} (ha : ∀ c ∈ a, isDig c = true) (ha' : ∀ c ∈ a', isDig c = true) (h : a ++ 46 :: b = a' ++ 46 :: b') : a = a' ∧ b = b' := by
  induction a generalizing a' with
  | nil =>
    cases a' with
    | nil => simp at h; exact ⟨rfl, h⟩
    | cons c t =>
      simp at h
      exact absurd h.1.symm (dig_ne_dot (ha' c (List.mem_cons_self ..))).1
  | cons c t ih =>
    cases a' with
    | nil =>
      simp at h
      exact absurd h.1 (dig_ne_dot (ha c (List.mem_cons_self ..))).1
    | cons c' t' =>
      simp at h
      obtain ⟨rfl, h⟩ := h
      obtain ⟨e1, e2⟩ := ih (fun x hx => ha x (List.mem_cons_of_mem _ hx)) (fun x hx => ha' x (List.mem_cons_of_mem _ hx)) h
      exact ⟨by rw [e1], e2⟩
theorem no_dot {a : Bs} (ha : ∀ c ∈ a, isDig c = true) : (46 : UInt8) ∉ a := fun h => (dig_ne_dot (ha _ h)).1 rfl

theorem bad_mid {l : Bs} {d i dot n : Nat} (h : St l i dot n) (hi : i < l.length) (hf : from_ l ≤ i) (h1 : isDig l[i] = false) (h2 : ¬ (l[i] = 46 ∧ dot = l.length)) : ¬ Ok l d := by
  intro hk
  obtain ⟨m, e, _, _⟩ := ok_shape hk
  rw [natText_part] at e
  have hm := seen_mem hi hf
  have hmem : l[i] ∈ natText m d := by rw [natText_part, ← e]; exact hm
  -- it is the dot
  have h46 : l[i] = 46 := by
    rw [natText_part] at hmem
    rcases List.mem_append.1 hmem with h | h
    · rw [low_dig _ _ _ h] at h1; cases h1
    · unfold part at h
      split at h
      · cases h
      · rcases List.mem_cons.1 h with h | h
        · exact h
        · rw [low_dig _ _ _ h] at h1; cases h1
  rcases h with ⟨h0, _⟩ | ⟨h0, a, b, k1, k2, k3, k4, k5⟩
  · exact h2 ⟨h46, h0⟩
  · obtain ⟨t, ht⟩ := seen_prefix l (i + 1)
    rw [seen_succ hi hf, k1, h46] at ht
    rw [ht] at e
    simp only [List.append_assoc, List.cons_append] at e
    unfold part at e
    split at e
    · have : (46 : UInt8) ∈ low (nd (m / 10 ^ d)) (m / 10 ^ d) ++ [] := by rw [← e]; simp
      rw [List.append_nil] at this
      exact no_dot (low_dig _ _) this
    · have e2 := (split_dot k2 (low_dig _ _) e).2
      have : (46 : UInt8) ∈ low d m := by rw [← e2]; simp
      exact no_dot (low_dig _ _) this

/-- The document's conditions on what was read. -/
def Good (l : Bs) (d dot n : Nat) : Prop :=
  1 ≤ dot - from_ l ∧ ¬ (1 < dot - from_ l ∧ l[from_ l]? = some 48) ∧ (if dot = l.length then 0 else l.length - dot - 1) = d ∧ ¬ (dot < l.length ∧ d = 0) ∧ n ≤ 1000000000000000 ∧ ¬ (from_ l = 1 ∧ n = 0)

theorem nd_of_digits {w : Bs} (hw : ∀ c ∈ w, isDig c = true) (h1 : 1 ≤ w.length) (h0 : ¬ (1 < w.length ∧ w[0]? = some 48)) : nd (val w) = w.length := by
  have hle : nd (val w) ≤ w.length := nd_le h1 (val_lt w hw)
  by_cases h : nd (val w) = w.length
  · exact h
  · exfalso
    cases w with
    | nil => simp at h1
    | cons c t =>
      have hp := nd_pos (val (c :: t))
      simp only [List.length_cons] at hle h h0 hp
      have ht : 1 ≤ t.length := by omega
      have hv := (nd_iff t.length (val (c :: t)) ht).2 (by omega)
      have hp := pow_pos' t.length
      rw [val_cons, Nat.mul_comm, Nat.mul_add_div hp, Nat.div_eq_of_lt (val_lt t fun x hx => hw x (List.mem_cons_of_mem _ hx))] at hv
      have hc := hw c (List.mem_cons_self ..)
      simp only [isDig, decide_eq_true_eq] at hc
      apply h0
      refine ⟨by omega, ?_⟩
      simp
      apply UInt8.toNat_inj.1
      have : (48 : UInt8).toNat = 48 := rfl
      omega

theorem nd_shape {w : Bs} {m : Nat} (e : w = low (nd m) m) : 1 ≤ w.length ∧ ¬ (1 < w.length ∧ w[0]? = some 48) := by
  subst e
  rw [low_length]
  have hp := nd_pos m
  refine ⟨hp, ?_⟩
  rintro ⟨h1, h2⟩
  obtain ⟨j, hj⟩ : ∃ j, nd m = j + 1 := ⟨nd m - 1, by omega⟩
  rw [hj, low_succ] at h2
  simp at h2
  have h3 := lt_nd (n := m) (j := j) (by omega) (by omega)
  have h4 := (nd_iff (j + 1) m (by omega)).2 (by omega)
  rw [← div_pow_succ] at h4
  have h5 : (dig (m / 10 ^ j)).toNat = 48 := by rw [h2]; rfl
  rw [dig_toNat] at h5
  omega

theorem from_le (l : Bs) : from_ l ≤ 1 := by unfold from_; split <;> omega
theorem from_len {l : Bs} : from_ l ≤ l.length := by
  unfold from_
  split
  · cases l with
    | nil => rename_i h; simp at h
    | cons c t => simp
  · omega

theorem at_from (l : Bs) : l[from_ l]? = (l.drop (from_ l))[0]? := by rw [List.getElem?_drop]; simp

theorem split_sign (l : Bs) : l = (if from_ l = 1 then [45] else []) ++ l.drop (from_ l) := by
  unfold from_
  split
  · rename_i h
    cases l with
    | nil => simp at h
    | cons c t => simp at h; subst h; simp
  · simp

theorem text_of_nat {l : Bs} {d n : Nat} (h : l.drop (from_ l) = natText n d) (hn : n ≤ 1000000000000000) (h0 : ¬ (from_ l = 1 ∧ n = 0)) : Ok l d ∧ readZ l = (if from_ l = 1 then -(n : Int) else n) := by
  have e := split_sign l
  rw [h] at e
  have hz : fixText (if from_ l = 1 then -(n : Int) else n) d = l := by
    conv => rhs; rw [e]
    unfold fixText
    by_cases h1 : from_ l = 1
    · rw [if_pos h1, if_pos h1, if_pos (by omega)]
      simp
    · rw [if_neg h1, if_neg h1, if_neg (by omega)]
      simp
  refine ⟨⟨_, ?_, ?_, hz⟩, ?_⟩
  · split <;> omega
  · split <;> omega
  · conv => lhs; rw [← hz]
    rw [readZ_fixText]

theorem good_end {l : Bs} {d dot n : Nat} (h : St l l.length dot n) (g : Good l d dot n) : Ok l d ∧ readZ l = (if from_ l = 1 then -(n : Int) else n) := by
  obtain ⟨g1, g2, g3, g4, g5, g6⟩ := g
  refine text_of_nat ?_ g5 g6
  rw [at_from] at g2
  rcases h with ⟨h0, h1, h2⟩ | ⟨h0, a, b, k1, k2, k3, k4, k5⟩
  · rw [if_pos h0] at g3
    subst g3
    rw [seen_all] at h1 h2
    have hl : (l.drop (from_ l)).length = l.length - from_ l := by simp
    rw [natText_part]
    simp only [part, if_true, List.append_nil, Nat.pow_zero, Nat.div_one]
    rw [h2, nd_of_digits h1 (by omega) (by rw [hl]; rw [h0] at g2; exact g2), low_val' _ h1]
  · rw [if_neg (by omega)] at g3
    rw [seen_all] at k1
    have hl : (l.drop (from_ l)).length = l.length - from_ l := by simp
    rw [k1] at hl g2
    simp at hl
    have hb : b.length = d := by omega
    have hd : d ≠ 0 := by omega
    rw [natText_part, k1]
    unfold part
    rw [if_neg hd]
    have hv : val (a ++ b) / 10 ^ d = val a := by
      rw [val_append, hb, Nat.mul_comm, Nat.mul_add_div (pow_pos' d), Nat.div_eq_of_lt (by rw [← hb]; exact val_lt b k3)]; omega
    have hm : val (a ++ b) % 10 ^ d = val b := by
      rw [val_append, hb, Nat.mul_comm, Nat.mul_add_mod, Nat.mod_eq_of_lt (by rw [← hb]; exact val_lt b k3)]
    rw [k5, hv]
    have ha : 1 ≤ a.length := by omega
    rw [nd_of_digits k2 ha (by
      rintro ⟨e1, e2⟩
      exact g2 ⟨by omega, by rw [List.getElem?_append_left (by omega)]; exact e2⟩), low_val' _ k2]
    rw [← hb] at hm ⊢
    rw [low_val b k3 _ hm]

theorem bad_end {l : Bs} {d dot n : Nat} (h : St l l.length dot n) (g : ¬ Good l d dot n) : ¬ Ok l d := by
  intro hk
  apply g
  obtain ⟨m, e, hm, hm0⟩ := ok_shape hk
  have hl : (l.drop (from_ l)).length = l.length - from_ l := by simp
  have hfl := from_len (l := l)
  have hval : ∀ w p : Bs, w = low (nd (m / 10 ^ d)) (m / 10 ^ d) → p = low d m → val (w ++ p) = m := by
    rintro _ _ rfl rfl
    rw [val_append, val_nd, val_low, low_length, Nat.mul_comm]
    exact Nat.div_add_mod m (10 ^ d)
  rw [natText_part] at e
  unfold Good
  rw [at_from]
  rcases h with ⟨h0, h1, h2⟩ | ⟨h0, a, b, k1, k2, k3, k4, k5⟩
  · rw [seen_all] at h1 h2
    unfold part at e
    by_cases hd : d = 0
    · subst hd
      rw [if_pos rfl, List.append_nil] at e
      obtain ⟨s1, s2⟩ := nd_shape e
      rw [hl] at s1 s2
      have hn : n = m := by
        rw [h2, ← hval _ [] e rfl, List.append_nil]
      rw [h0, if_pos rfl, hn]
      exact ⟨s1, s2, rfl, by omega, hm, fun x => hm0 x.1 x.2⟩
    · rw [if_neg hd] at e
      exfalso
      have : (46 : UInt8) ∈ l.drop (from_ l) := by rw [e]; simp
      exact no_dot h1 this
  · rw [seen_all] at k1
    unfold part at e
    by_cases hd : d = 0
    · rw [if_pos hd, List.append_nil] at e
      exfalso
      have : (46 : UInt8) ∈ l.drop (from_ l) := by rw [k1]; simp
      rw [e] at this
      exact no_dot (low_dig _ _) this
    · rw [if_neg hd, k1] at e
      obtain ⟨ea, eb⟩ := split_dot k2 (low_dig _ _) e
      obtain ⟨s1, s2⟩ := nd_shape ea
      have hbl : b.length = d := by rw [eb, low_length]
      rw [k1] at hl
      simp at hl
      rw [if_neg (by omega), k1]
      have hn : n = m := by rw [k5, hval a b ea eb]
      rw [hn]
      refine ⟨by omega, ?_, by omega, by omega, hm, fun x => hm0 x.1 x.2⟩
      rintro ⟨e1, e2⟩
      rw [List.getElem?_append_left (by omega)] at e2
      exact s2 ⟨by omega, e2⟩
end Go.Proofs.YtncahpbjbgcnbaaGreatDoor.FixMath
/-
  WALKS: the bounds, the units, comparison of two integers.
-/
namespace Go.Proofs.YtncahpbjbgcnbaaGreatDoor
open Go.RowKit FixMath
set_option maxRecDepth 100000
set_option linter.unusedVariables false

def unitN (d : Nat) : Nat := if d ≤ 6 then 10 ^ d else 0
/-- The table of units lies in memory. -/
def Units (w : World) : Prop := 0 < w.heap.size ∧ ∀ j : Nat, j < 7 → w.cell? ⟨0, j, none⟩ = some (.int .i64 (unitN j))
def mayB (n : Int) : Bool := decide (-1000000000000000 ≤ n ∧ n ≤ 1000000000000000)

theorem may_any (n : Int) (w : World) : Calls Tryz.prog 77 #[.int .i64 n] w fun e w' => e = .returned (.bool (mayB n)) ∧ w = w' := by
  by_cases h1 : -1000000000000000 ≤ n
  · by_cases h2 : n ≤ 1000000000000000
    · have HV : Hid (mayB n = true) := Lib.hid (by simp [mayB]; omega)
      go_enter Tryz.func77, Tryz.ntmps77
      go_wp2
      go_ret
      exact ⟨by rw [HV.out]; rfl, rfl⟩
    · have HV : Hid (mayB n = false) := Lib.hid (by simp [mayB]; omega)
      go_enter Tryz.func77, Tryz.ntmps77
      go_wp2
      go_ret
      exact ⟨by rw [HV.out]; rfl, rfl⟩
  · have HV : Hid (mayB n = false) := Lib.hid (by simp [mayB]; omega)
    go_enter Tryz.func77, Tryz.ntmps77
    go_wp2
    go_ret
    exact ⟨by rw [HV.out]; rfl, rfl⟩
theorem refMay_any (n : Int) (w : World) : Calls Tryz.prog 127 #[.int .i64 n] w fun e w' => e = .returned (.bool (mayB n)) ∧ w = w' := by
  by_cases h1 : -1000000000000000 ≤ n
  · by_cases h2 : n ≤ 1000000000000000
    · have HV : Hid (mayB n = true) := Lib.hid (by simp [mayB]; omega)
      go_enter Tryz.func127, Tryz.ntmps127
      go_wp2
      go_ret
      exact ⟨by rw [HV.out]; rfl, rfl⟩
    · have HV : Hid (mayB n = false) := Lib.hid (by simp [mayB]; omega)
      go_enter Tryz.func127, Tryz.ntmps127
      go_wp2
      go_ret
      exact ⟨by rw [HV.out]; rfl, rfl⟩
  · have HV : Hid (mayB n = false) := Lib.hid (by simp [mayB]; omega)
    go_enter Tryz.func127, Tryz.ntmps127
    go_wp2
    go_ret
    exact ⟨by rw [HV.out]; rfl, rfl⟩

end Go.Proofs.YtncahpbjbgcnbaaGreatDoor
/-
  WALKS: a number with digits; units by the loop; comparison; a number's two parts; the sum.
-/
namespace Go.Proofs.YtncahpbjbgcnbaaGreatDoor
open Go.RowKit FixMath
set_option maxRecDepth 100000
set_option linter.unusedVariables false

theorem Dr_refl (w : World) : ∃ n, w = w.drewN n := ⟨0, rfl⟩
/-- w' is w but for draws. -/
def Dr (w w' : World) : Prop := ∃ n, w' = w.drewN n
theorem Dr.refl (w : World) : Dr w w := ⟨0, rfl⟩
theorem Dr.one (w : World) (a : Nat) : Dr w (w.drewN a) := ⟨a, rfl⟩
theorem Dr.trans {a b c : World} (h : Dr a b) (k : Dr b c) : Dr a c := by
  obtain ⟨n, rfl⟩ := h; obtain ⟨m, rfl⟩ := k; exact ⟨_, World.drewN_drewN _ _ _⟩
theorem Dr.below {w w' : World} (h : Dr w w') (B : Nat) : Below B w w' := by
  obtain ⟨n, rfl⟩ := h
  exact ⟨rfl, rfl, rfl, Nat.le_refl _, fun _ _ => rfl⟩
theorem Units.dr {w w' : World} (h : Units w) (k : Dr w w') : Units w' := by
  obtain ⟨n, rfl⟩ := k
  exact h

/-- A callee that leaves the world alone, met behind draws that were joined. -/
theorem qj {P : Program} {f : FuncId} {args : Array Value} {w : World} {a n : Nat} {v : Value} (h : Calls P f args (w.drewN (a + n)) fun e w' => e = .returned v ∧ w.drewN (a + n) = w') :
    Calls P f args (w.drewN (a + n)) fun e w' => e = .returned v ∧ ∃ m, w' = w.drewN (a + m) := h.mono fun _ _ k => ⟨k.1, n, k.2.symm⟩
theorem q1 {P : Program} {f : FuncId} {args : Array Value} {w : World} {n : Nat} {v : Value} (h : Calls P f args (w.drewN n) fun e w' => e = .returned v ∧ w.drewN n = w') :
    Calls P f args (w.drewN n) fun e w' => e = .returned v ∧ ∃ m, w' = w.drewN m := h.mono fun _ _ k => ⟨k.1, n, k.2.symm⟩
theorem unitN_pos {d : Nat} (h : d ≤ 6) : 1 ≤ unitN d ∧ unitN d ≤ 1000000 := by
  unfold unitN
  rw [if_pos h]
  exact ⟨Nat.pow_pos (by omega), Nat.pow_le_pow_right (n := 10) (by omega) h⟩
theorem unitN_mul {a b : Nat} (h : a + b ≤ 6) : unitN a * unitN b = unitN (a + b) := by
  unfold unitN
  rw [if_pos h, if_pos (by omega), if_pos (by omega), Nat.pow_add]
theorem unitN_succ {d : Nat} (h : d < 6) : unitN (d + 1) = 10 * unitN d := by
  unfold unitN
  rw [if_pos (by omega), if_pos (by omega), Nat.pow_succ, Nat.mul_comm]

def countsB (n : Int) (d : Nat) : Bool := mayB n && decide (d ≤ 6)
theorem countsB_t {n : Int} {d : Nat} (h : mayB n = true) (hd : d ≤ 6) : countsB n d = true := by simp [countsB, h, hd]
theorem countsB_f1 {n : Int} {d : Nat} (h : mayB n = false) : countsB n d = false := by simp [countsB, h]
theorem countsB_f2 {n : Int} {d : Nat} (hd : 6 < d) : countsB n d = false := by simp [countsB]; omega
theorem countsB_out {n : Int} {d : Nat} (h : countsB n d = true) : -1000000000000000 ≤ n ∧ n ≤ 1000000000000000 ∧ d ≤ 6 := by
  simp [countsB, mayB] at h; omega
theorem countsB_iff {n : Int} {d : Nat} : countsB n d = true ↔ -1000000000000000 ≤ n ∧ n ≤ 1000000000000000 ∧ d ≤ 6 := by
  simp [countsB, mayB]; omega

def wholeZ (n : Int) (d : Nat) : Int := n.tdiv (unitN d)
def restZ (n : Int) (d : Nat) : Int := n.tmod (unitN d) * unitN (6 - d)
theorem parts_bounds (n : Int) (d : Nat) (h : -1000000000000000 ≤ n ∧ n ≤ 1000000000000000) (hd : d ≤ 6) :
    (-1000000000000000 ≤ n.tdiv (unitN d) ∧ n.tdiv (unitN d) ≤ 1000000000000000) ∧ (-1000000 ≤ n.tmod (unitN d) ∧ n.tmod (unitN d) ≤ 1000000) ∧ (-1000000 ≤ restZ n d ∧ restZ n d ≤ 1000000) := by
  have hu := unitN_pos hd
  have hm := unitN_mul (a := d) (b := 6 - d) (by omega)
  have e6 : unitN (d + (6 - d)) = 1000000 := by rw [show d + (6 - d) = 6 by omega]; rfl
  rw [e6] at hm
  unfold restZ
  generalize unitN d = u at *
  generalize unitN (6 - d) = v at *
  have h1 : (n.tdiv u).natAbs = n.natAbs / u := by rw [Int.natAbs_tdiv]; rfl
  have h1' : n.natAbs / u ≤ n.natAbs := Nat.div_le_self _ _
  have h2 : (n.tmod u).natAbs = n.natAbs % u := by rw [Int.natAbs_tmod]; simp
  have h2' : n.natAbs % u < u := Nat.mod_lt _ (by omega)
  have h3 : (n.tmod u * v).natAbs = n.natAbs % u * v := by rw [Int.natAbs_mul, h2]; simp
  have h3' : n.natAbs % u * v ≤ u * v := Nat.mul_le_mul_right _ (by omega)
  refine ⟨by omega, by omega, by omega⟩

end Go.Proofs.YtncahpbjbgcnbaaGreatDoor
/-
  PLAIN: the kinds that there are; the fault of an object, as the chapter says it.
-/
namespace Go.Proofs.YtncahpbjbgcnbaaGreatDoor
open Go.RowKit
set_option maxRecDepth 100000
set_option linter.unusedVariables false

def kindB (k : Nat) : Bool := decide (1 ≤ k ∧ k ≤ 9)
/-- What is wrong with an object of a kind that there is, with just its kind's fields. -/
noncomputable def faultR (o : Ob) (desc valued : Bool) : Int :=
  if HL.mayB o.handle = false ∨ (desc = true ∧ ¬ (o.kind : Int) = 1 ∧ HL.mayB o.parent = false) ∨ (desc = true ∧ refersB o.kind = true ∧ HL.mayB o.ref = false) then 10
  else if (6 : Int) < o.digits ∨ mayB o.lo = false ∨ mayB o.hi = false ∨ mayB o.value = false ∨ mayB o.low = false ∨ mayB o.high = false ∨ (o.has = false ∧ ¬ o.value = 0) then 20
  else if o.hi < o.lo ∨ o.high < o.low ∨ (valued = true ∧ o.has = true ∧ (o.value < o.lo ∨ o.hi < o.value)) then 30 else 0
noncomputable def faultOf (o : Ob) (desc valued : Bool) : Int := by
  classical exact if kindB o.kind = false ∨ trimOf o ≠ o ∨ 3 < o.typ ∨ 3 < o.assoc then 40 else faultR o desc valued

theorem bytes_toList {s t : ByteArray} (h : s.toList = t.toList) : s = t := by
  rw [ByteArray.toList_eq, ByteArray.toList_eq] at h
  exact ByteArray.ext (Array.toList_inj.1 h)
theorem word_some {k : Nat} (h : kindB k = true) : ∃ c l, wordOf k = ⟨⟨c :: l⟩⟩ := by
  unfold kindB at h
  have := of_decide_eq_true h
  rcases (show k = 1 ∨ k = 2 ∨ k = 3 ∨ k = 4 ∨ k = 5 ∨ k = 6 ∨ k = 7 ∨ k = 8 ∨ k = 9 by omega) with rfl | rfl | rfl | rfl | rfl | rfl | rfl | rfl | rfl <;> exact ⟨_, _, rfl⟩
end Go.Proofs.YtncahpbjbgcnbaaGreatDoor
/-
  WALKS: the tables of words and of kinds, as they lie in memory; the program's Word, and its kind of a word.
-/
namespace Go.Proofs.YtncahpbjbgcnbaaGreatDoor
open Go.RowKit
set_option maxRecDepth 100000
set_option linter.unusedVariables false

/-- The table of words lies in memory. -/
def Words (w : World) : Prop := 2 < w.heap.size ∧ ∀ j : Nat, j < 10 → w.cell? ⟨2, j, none⟩ = some (.string (wordOf j))
theorem Words.then {W W1 : World} (h : Words W) (k : Below W.heap.size W W1) : Words W1 := ⟨Nat.lt_of_lt_of_le h.1 k.size, fun j hj => by rw [k.cell h.1]; exact h.2 j hj⟩
theorem Words.al {W : World} (h : Words W) (o : Obj) : Words (W.alloc o) := h.then (bAl (Below.refl _ _) o)
theorem Words.from {w W : World} (h : Words w) (k : Below w.heap.size w W) : Words W := h.then k

theorem word_any (k : Nat) (w : World) (hk : k ≤ 255) (hw : Words w) : Calls Tryz.prog 71 #[.int .u8 k] w fun e w' => e = .returned (.string (wordOf k)) ∧ w = w' := by
  by_cases hd : 10 ≤ k
  · have HV := Lib.hid (word_none (k := k) (by omega))
    have hd2 : (10 : Int) ≤ k := by omega
    clear hd hw
    go_enter Tryz.func71, Tryz.ntmps71
    go_wp2
    go_ret
    exact ⟨by rw [HV.out]; rfl, rfl⟩
  · have hc := hw.2 k (by omega)
    have h0 := hw.1
    have hd2 : k < 10 := by omega
    clear hw hd
    go_enter Tryz.func71, Tryz.ntmps71
    go_wp2
    go_ret
    exact ⟨rfl, rfl⟩
end Go.Proofs.YtncahpbjbgcnbaaGreatDoor
/-
  WALKS: the table of kinds, as it lies in memory.
-/
namespace Go.Proofs.YtncahpbjbgcnbaaGreatDoor
open Go.RowKit
set_option maxRecDepth 100000
set_option linter.unusedVariables false

def kindMask (k : Nat) : Nat := match k with | 2 => 1 | 3 => 1 | 4 => 441 | 5 => 65 | 6 => 71 | 7 => 69 | 8 => 1607 | 9 => 2051 | _ => 0
/-- The table of kinds lies in memory. -/
def Kinds (w : World) : Prop := 0 < w.heap.size ∧ ∀ j : Nat, j < 10 → w.cell? ⟨0, j, none⟩ = some (.int .u16 (kindMask j))
theorem Kinds.then {W W1 : World} (h : Kinds W) (k : Below W.heap.size W W1) : Kinds W1 := ⟨Nat.lt_of_lt_of_le h.1 k.size, fun j hj => by rw [k.cell h.1]; exact h.2 j hj⟩
end Go.Proofs.YtncahpbjbgcnbaaGreatDoor
/-
  PLAIN: the set of an object's filled fields against its kind's: an object has just its kind's fields iff it is its own trimming.
-/
namespace Go.Proofs.YtncahpbjbgcnbaaGreatDoor
open Go.RowKit
set_option maxRecDepth 100000
set_option linter.unusedVariables false
set_option linter.unusedSimpArgs false

def orIf (z : Bool) (m b : Nat) : Nat := if z then m else m ||| b
def maskZ (z0 z1 z2 z3 z4 z5 z6 z7 z8 z9 z10 z11 : Bool) : Nat := orIf z11 (orIf z10 (orIf z9 (orIf z8 (orIf z7 (orIf z6 (orIf z5 (orIf z4 (orIf z3 (orIf z2 (orIf z1 (orIf z0 0 1) 2) 4) 8) 16) 32) 64) 128) 256) 512) 1024) 2048
theorem maskTo_Z (o : Ob) : maskTo o 12 = maskZ (zB o 0) (zB o 1) (zB o 2) (zB o 3) (zB o 4) (zB o 5) (zB o 6) (zB o 7) (zB o 8) (zB o 9) (zB o 10) (zB o 11) := rfl
theorem mask1 : ∀ z0 z1 z2 z3 z4 z5 z6 z7 z8 z9 z10 z11 : Bool, ((maskZ z0 z1 z2 z3 z4 z5 z6 z7 z8 z9 z10 z11 &&& (65535 - 0)) == 0) = (z0 && z1 && z2 && z3 && z4 && z5 && z6 && z7 && z8 && z9 && z10 && z11) := by decide +kernel
theorem mask2 : ∀ z0 z1 z2 z3 z4 z5 z6 z7 z8 z9 z10 z11 : Bool, ((maskZ z0 z1 z2 z3 z4 z5 z6 z7 z8 z9 z10 z11 &&& (65535 - 1)) == 0) = (z1 && z2 && z3 && z4 && z5 && z6 && z7 && z8 && z9 && z10 && z11) := by decide +kernel
theorem mask3 : ∀ z0 z1 z2 z3 z4 z5 z6 z7 z8 z9 z10 z11 : Bool, ((maskZ z0 z1 z2 z3 z4 z5 z6 z7 z8 z9 z10 z11 &&& (65535 - 1)) == 0) = (z1 && z2 && z3 && z4 && z5 && z6 && z7 && z8 && z9 && z10 && z11) := by decide +kernel
theorem mask4 : ∀ z0 z1 z2 z3 z4 z5 z6 z7 z8 z9 z10 z11 : Bool, ((maskZ z0 z1 z2 z3 z4 z5 z6 z7 z8 z9 z10 z11 &&& (65535 - 441)) == 0) = (z1 && z2 && z6 && z9 && z10 && z11) := by decide +kernel
theorem mask5 : ∀ z0 z1 z2 z3 z4 z5 z6 z7 z8 z9 z10 z11 : Bool, ((maskZ z0 z1 z2 z3 z4 z5 z6 z7 z8 z9 z10 z11 &&& (65535 - 65)) == 0) = (z1 && z2 && z3 && z4 && z5 && z7 && z8 && z9 && z10 && z11) := by decide +kernel
theorem mask6 : ∀ z0 z1 z2 z3 z4 z5 z6 z7 z8 z9 z10 z11 : Bool, ((maskZ z0 z1 z2 z3 z4 z5 z6 z7 z8 z9 z10 z11 &&& (65535 - 71)) == 0) = (z3 && z4 && z5 && z7 && z8 && z9 && z10 && z11) := by decide +kernel
theorem mask7 : ∀ z0 z1 z2 z3 z4 z5 z6 z7 z8 z9 z10 z11 : Bool, ((maskZ z0 z1 z2 z3 z4 z5 z6 z7 z8 z9 z10 z11 &&& (65535 - 69)) == 0) = (z1 && z3 && z4 && z5 && z7 && z8 && z9 && z10 && z11) := by decide +kernel
theorem mask8 : ∀ z0 z1 z2 z3 z4 z5 z6 z7 z8 z9 z10 z11 : Bool, ((maskZ z0 z1 z2 z3 z4 z5 z6 z7 z8 z9 z10 z11 &&& (65535 - 1607)) == 0) = (z3 && z4 && z5 && z7 && z8 && z11) := by decide +kernel
theorem mask9 : ∀ z0 z1 z2 z3 z4 z5 z6 z7 z8 z9 z10 z11 : Bool, ((maskZ z0 z1 z2 z3 z4 z5 z6 z7 z8 z9 z10 z11 &&& (65535 - 2051)) == 0) = (z2 && z3 && z4 && z5 && z6 && z7 && z8 && z9 && z10) := by decide +kernel
theorem empty_iff (s : ByteArray) : s.toList.isEmpty = true ↔ (⟨#[]⟩ : ByteArray) = s := by
  constructor
  · intro h
    refine bytes_toList ?_
    have : s.toList = [] := by simpa using h
    rw [this, ByteArray.toList_eq]
  · intro h; subst h; rw [ByteArray.toList_eq]; rfl
theorem natz_iff (n : Nat) : ((n : Int) == 0) = true ↔ 0 = n := by simp; omega
theorem intz_iff (n : Int) : (n == 0) = true ↔ 0 = n := by simp; omega
theorem boolz_iff (b : Bool) : (boolI b == 0) = true ↔ false = b := by cases b <;> simp [boolI]
theorem fits_trim (o : Ob) (h : kindB o.kind = true) : ((maskTo o 12 &&& (65535 - kindMask o.kind)) == 0) = true ↔ trimOf o = o := by
  have h1 := of_decide_eq_true h
  clear h
  obtain ⟨xh, k, xp, xt, xr, xlo, xhi, xd, xon, xhas, xv, xlw, xhg, xa⟩ := o
  rw [maskTo_Z]
  dsimp only at h1 ⊢
  rcases (show k = 1 ∨ k = 2 ∨ k = 3 ∨ k = 4 ∨ k = 5 ∨ k = 6 ∨ k = 7 ∨ k = 8 ∨ k = 9 by omega) with rfl | rfl | rfl | rfl | rfl | rfl | rfl | rfl | rfl
  · show ((maskZ _ _ _ _ _ _ _ _ _ _ _ _ &&& (65535 - 0)) == 0) = true ↔ _
    rw [mask1]
    simp only [zB, Bool.and_eq_true, empty_iff, natz_iff, boolz_iff]
    simp only [trimOf, intz_iff, Ob.mk.injEq]
    simp
    try grind
  · show ((maskZ _ _ _ _ _ _ _ _ _ _ _ _ &&& (65535 - 1)) == 0) = true ↔ _
    rw [mask2]
    simp only [zB, Bool.and_eq_true, empty_iff, natz_iff, boolz_iff]
    simp only [trimOf, intz_iff, Ob.mk.injEq]
    simp
    try grind
  · show ((maskZ _ _ _ _ _ _ _ _ _ _ _ _ &&& (65535 - 1)) == 0) = true ↔ _
    rw [mask3]
    simp only [zB, Bool.and_eq_true, empty_iff, natz_iff, boolz_iff]
    simp only [trimOf, intz_iff, Ob.mk.injEq]
    simp
    try grind
  · show ((maskZ _ _ _ _ _ _ _ _ _ _ _ _ &&& (65535 - 441)) == 0) = true ↔ _
    rw [mask4]
    simp only [zB, Bool.and_eq_true, empty_iff, natz_iff, boolz_iff]
    simp only [trimOf, intz_iff, Ob.mk.injEq]
    simp
    try grind
  · show ((maskZ _ _ _ _ _ _ _ _ _ _ _ _ &&& (65535 - 65)) == 0) = true ↔ _
    rw [mask5]
    simp only [zB, Bool.and_eq_true, empty_iff, natz_iff, boolz_iff]
    simp only [trimOf, intz_iff, Ob.mk.injEq]
    simp
    try grind
  · show ((maskZ _ _ _ _ _ _ _ _ _ _ _ _ &&& (65535 - 71)) == 0) = true ↔ _
    rw [mask6]
    simp only [zB, Bool.and_eq_true, empty_iff, natz_iff, boolz_iff]
    simp only [trimOf, intz_iff, Ob.mk.injEq]
    simp
    try grind
  · show ((maskZ _ _ _ _ _ _ _ _ _ _ _ _ &&& (65535 - 69)) == 0) = true ↔ _
    rw [mask7]
    simp only [zB, Bool.and_eq_true, empty_iff, natz_iff, boolz_iff]
    simp only [trimOf, intz_iff, Ob.mk.injEq]
    simp
    try grind
  · show ((maskZ _ _ _ _ _ _ _ _ _ _ _ _ &&& (65535 - 1607)) == 0) = true ↔ _
    rw [mask8]
    simp only [zB, Bool.and_eq_true, empty_iff, natz_iff, boolz_iff]
    simp only [trimOf, intz_iff, Ob.mk.injEq]
    simp
    try grind
  · show ((maskZ _ _ _ _ _ _ _ _ _ _ _ _ &&& (65535 - 2051)) == 0) = true ↔ _
    rw [mask9]
    simp only [zB, Bool.and_eq_true, empty_iff, natz_iff, boolz_iff]
    simp only [trimOf, intz_iff, Ob.mk.injEq]
    simp
    try grind
def fitsB (o : Ob) : Bool := kindB o.kind && ((maskTo o 12 &&& (65535 - kindMask o.kind)) == 0) && decide (o.typ ≤ 3) && decide (o.assoc ≤ 3)
end Go.Proofs.YtncahpbjbgcnbaaGreatDoor
