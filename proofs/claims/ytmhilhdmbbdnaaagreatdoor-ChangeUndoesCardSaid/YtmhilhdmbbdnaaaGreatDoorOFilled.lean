/-
  WALK: the set of an object's fields that are not zero.
-/
import Derived.Test.YtmhilhdmbbdnaaaGreatDoorOZero
import Derived.KernelRfl
import Derived.Laws.EntriesVeiled
import Derived.Laws.BitsAllLaws
namespace Go.Proofs.YtmhilhdmbbdnaaaGreatDoor
open Go.RowKit
set_option maxRecDepth 100000
set_option linter.unusedVariables false

theorem idx0 (W : World) : Sem.run Tryz.prog (Instr.index 108 (.agg fieldsA) (.int .i64 0)) W = .ok fld0 W := by kernel_rfl
theorem idx1 (W : World) : Sem.run Tryz.prog (Instr.index 108 (.agg fieldsA) (.int .i64 1)) W = .ok fld1 W := by kernel_rfl
theorem idx2 (W : World) : Sem.run Tryz.prog (Instr.index 108 (.agg fieldsA) (.int .i64 2)) W = .ok fld2 W := by kernel_rfl
theorem idx3 (W : World) : Sem.run Tryz.prog (Instr.index 108 (.agg fieldsA) (.int .i64 3)) W = .ok fld3 W := by kernel_rfl
theorem idx4 (W : World) : Sem.run Tryz.prog (Instr.index 108 (.agg fieldsA) (.int .i64 4)) W = .ok fld4 W := by kernel_rfl
theorem idx5 (W : World) : Sem.run Tryz.prog (Instr.index 108 (.agg fieldsA) (.int .i64 5)) W = .ok fld5 W := by kernel_rfl
theorem idx6 (W : World) : Sem.run Tryz.prog (Instr.index 108 (.agg fieldsA) (.int .i64 6)) W = .ok fld6 W := by kernel_rfl
theorem idx7 (W : World) : Sem.run Tryz.prog (Instr.index 108 (.agg fieldsA) (.int .i64 7)) W = .ok fld7 W := by kernel_rfl
theorem idx8 (W : World) : Sem.run Tryz.prog (Instr.index 108 (.agg fieldsA) (.int .i64 8)) W = .ok fld8 W := by kernel_rfl
theorem idx9 (W : World) : Sem.run Tryz.prog (Instr.index 108 (.agg fieldsA) (.int .i64 9)) W = .ok fld9 W := by kernel_rfl
theorem idx10 (W : World) : Sem.run Tryz.prog (Instr.index 108 (.agg fieldsA) (.int .i64 10)) W = .ok fld10 W := by kernel_rfl
theorem idx11 (W : World) : Sem.run Tryz.prog (Instr.index 108 (.agg fieldsA) (.int .i64 11)) W = .ok fld11 W := by kernel_rfl
def zB (o : Ob) : Nat → Bool
  | 0 => o.parent.toList.isEmpty
  | 1 => (o.typ : Int) == 0
  | 2 => o.ref.toList.isEmpty
  | 3 => o.lo == 0
  | 4 => o.hi == 0
  | 5 => (o.digits : Int) == 0
  | 6 => boolI o.on == 0
  | 7 => boolI o.has == 0
  | 8 => o.value == 0
  | 9 => o.low == 0
  | 10 => o.high == 0
  | 11 => (o.assoc : Int) == 0
  | _ => true
def maskTo (o : Ob) : Nat → Nat
  | 0 => 0
  | n + 1 => if zB o n then maskTo o n else maskTo o n ||| 2 ^ n
theorem maskTo_lt (o : Ob) : ∀ n, maskTo o n < 2 ^ n
  | 0 => by simp [maskTo]
  | n + 1 => by
    have h := maskTo_lt o n
    unfold maskTo
    split
    · rw [Nat.pow_succ]; omega
    · exact Nat.or_lt_two_pow (by rw [Nat.pow_succ]; omega) (Nat.pow_lt_pow_right (by omega) (by omega))
set_option maxHeartbeats 8000000 in
theorem filled_any (o : Ob) (w : World) (h1 : o.typ ≤ 255) (h5 : o.digits ≤ 255) (h11 : o.assoc ≤ 255) : Calls Tryz.prog 79 #[ob o] w fun e w' => e = .returned (.int .u16 (maskTo o 12)) ∧ Below w.heap.size w w' := by
  have hb : Below w.heap.size w w := Below.refl _ _
  have CF := fun W => Lib.hid (fields_any W)
  go_enter Tryz.func79, Tryz.ntmps79
  go_wp2_with (go_at_call 95; ((with_reducible refine (CF _).out.mono ?_); rintro e w1 ⟨rfl, k1⟩; replace hb := bThen (bAl hb _) k1; have mO := (AtC.new _ _ _).then k1))
  go_loopw [3, 7] (fun m i wr => ∃ k : Nat, k ≤ 12 ∧ i = .int .i64 k ∧ m = .int .u16 (maskTo o k) ∧ AtC wr w.heap.size (obCells o) ∧ Below w.heap.size w wr) (fun _ i _ => 12 - (intOf i).toNat)
  case atStart => exact ⟨0, by omega, rfl, rfl, mO, hb⟩
  case round =>
    clear hb mO k1
    obtain ⟨k, hk, rfl, rfl, mO, hb⟩ := hrel
    by_cases hlt : k < 12
    · rcases (show k = 0 ∨ k = 1 ∨ k = 2 ∨ k = 3 ∨ k = 4 ∨ k = 5 ∨ k = 6 ∨ k = 7 ∨ k = 8 ∨ k = 9 ∨ k = 10 ∨ k = 11 by omega) with rfl | rfl | rfl | rfl | rfl | rfl | rfl | rfl | rfl | rfl | rfl | rfl
      · have C := Lib.hid (fun W h => zero0 o w.heap.size W h)
        have I := idx0
        have HM := Lib.hid (show maskTo o (0 + 1) = if o.parent.toList.isEmpty then maskTo o 0 else maskTo o 0 ||| 2 ^ 0 from rfl)
        have ML : Hid (maskTo o 0 < 65536) := Lib.hid (Nat.lt_of_lt_of_le (maskTo_lt o 0) (by decide))
        generalize o.parent.toList.isEmpty = z at *
        generalize maskTo o 0 = m at *
        clear CF hlt hk h1 h5 h11
        cases z
        · go_wp2_with (go_at_call 96; ((with_reducible refine (C.out _ (mO.al _)).mono ?_); rintro e w2 ⟨rfl, k3⟩; have mF := (AtC.new _ _ _).then k3; have fc := mF.c; replace mO := (mO.al _).then k3; replace hb := bThen (bAl hb _) k3))
          go_roundw
          case rel => exact ⟨1, by omega, rfl, congrArg (Value.int .u16) ((u16_or_nat m 1 ML.out (by omega)).trans (by rw [HM.out]; rfl)), mO, hb⟩
          case measure => simp [intOf]
        · go_wp2_with (go_at_call 96; ((with_reducible refine (C.out _ (mO.al _)).mono ?_); rintro e w2 ⟨rfl, k3⟩; replace mO := (mO.al _).then k3; replace hb := bThen (bAl hb _) k3))
          go_roundw
          case rel => exact ⟨1, by omega, rfl, congrArg (Value.int .u16) (by rw [HM.out]; rfl), mO, hb⟩
          case measure => simp [intOf]
      · have C := Lib.hid (fun W h => zero1 o w.heap.size W h h1)
        have I := idx1
        have HM := Lib.hid (show maskTo o (1 + 1) = if ((o.typ : Int) == 0) then maskTo o 1 else maskTo o 1 ||| 2 ^ 1 from rfl)
        have ML : Hid (maskTo o 1 < 65536) := Lib.hid (Nat.lt_of_lt_of_le (maskTo_lt o 1) (by decide))
        generalize ((o.typ : Int) == 0) = z at *
        generalize maskTo o 1 = m at *
        clear CF hlt hk h1 h5 h11
        cases z
        · go_wp2_with (go_at_call 96; ((with_reducible refine (C.out _ (mO.al _)).mono ?_); rintro e w2 ⟨rfl, k3⟩; have mF := (AtC.new _ _ _).then k3; have fc := mF.c; replace mO := (mO.al _).then k3; replace hb := bThen (bAl hb _) k3))
          go_roundw
          case rel => exact ⟨2, by omega, rfl, congrArg (Value.int .u16) ((u16_or_nat m 2 ML.out (by omega)).trans (by rw [HM.out]; rfl)), mO, hb⟩
          case measure => simp [intOf]
        · go_wp2_with (go_at_call 96; ((with_reducible refine (C.out _ (mO.al _)).mono ?_); rintro e w2 ⟨rfl, k3⟩; replace mO := (mO.al _).then k3; replace hb := bThen (bAl hb _) k3))
          go_roundw
          case rel => exact ⟨2, by omega, rfl, congrArg (Value.int .u16) (by rw [HM.out]; rfl), mO, hb⟩
          case measure => simp [intOf]
      · have C := Lib.hid (fun W h => zero2 o w.heap.size W h)
        have I := idx2
        have HM := Lib.hid (show maskTo o (2 + 1) = if o.ref.toList.isEmpty then maskTo o 2 else maskTo o 2 ||| 2 ^ 2 from rfl)
        have ML : Hid (maskTo o 2 < 65536) := Lib.hid (Nat.lt_of_lt_of_le (maskTo_lt o 2) (by decide))
        generalize o.ref.toList.isEmpty = z at *
        generalize maskTo o 2 = m at *
        clear CF hlt hk h1 h5 h11
        cases z
        · go_wp2_with (go_at_call 96; ((with_reducible refine (C.out _ (mO.al _)).mono ?_); rintro e w2 ⟨rfl, k3⟩; have mF := (AtC.new _ _ _).then k3; have fc := mF.c; replace mO := (mO.al _).then k3; replace hb := bThen (bAl hb _) k3))
          go_roundw
          case rel => exact ⟨3, by omega, rfl, congrArg (Value.int .u16) ((u16_or_nat m 4 ML.out (by omega)).trans (by rw [HM.out]; rfl)), mO, hb⟩
          case measure => simp [intOf]
        · go_wp2_with (go_at_call 96; ((with_reducible refine (C.out _ (mO.al _)).mono ?_); rintro e w2 ⟨rfl, k3⟩; replace mO := (mO.al _).then k3; replace hb := bThen (bAl hb _) k3))
          go_roundw
          case rel => exact ⟨3, by omega, rfl, congrArg (Value.int .u16) (by rw [HM.out]; rfl), mO, hb⟩
          case measure => simp [intOf]
      · have C := Lib.hid (fun W h => zero3 o w.heap.size W h)
        have I := idx3
        have HM := Lib.hid (show maskTo o (3 + 1) = if (o.lo == 0) then maskTo o 3 else maskTo o 3 ||| 2 ^ 3 from rfl)
        have ML : Hid (maskTo o 3 < 65536) := Lib.hid (Nat.lt_of_lt_of_le (maskTo_lt o 3) (by decide))
        generalize (o.lo == 0) = z at *
        generalize maskTo o 3 = m at *
        clear CF hlt hk h1 h5 h11
        cases z
        · go_wp2_with (go_at_call 96; ((with_reducible refine (C.out _ (mO.al _)).mono ?_); rintro e w2 ⟨rfl, k3⟩; have mF := (AtC.new _ _ _).then k3; have fc := mF.c; replace mO := (mO.al _).then k3; replace hb := bThen (bAl hb _) k3))
          go_roundw
          case rel => exact ⟨4, by omega, rfl, congrArg (Value.int .u16) ((u16_or_nat m 8 ML.out (by omega)).trans (by rw [HM.out]; rfl)), mO, hb⟩
          case measure => simp [intOf]
        · go_wp2_with (go_at_call 96; ((with_reducible refine (C.out _ (mO.al _)).mono ?_); rintro e w2 ⟨rfl, k3⟩; replace mO := (mO.al _).then k3; replace hb := bThen (bAl hb _) k3))
          go_roundw
          case rel => exact ⟨4, by omega, rfl, congrArg (Value.int .u16) (by rw [HM.out]; rfl), mO, hb⟩
          case measure => simp [intOf]
      · have C := Lib.hid (fun W h => zero4 o w.heap.size W h)
        have I := idx4
        have HM := Lib.hid (show maskTo o (4 + 1) = if (o.hi == 0) then maskTo o 4 else maskTo o 4 ||| 2 ^ 4 from rfl)
        have ML : Hid (maskTo o 4 < 65536) := Lib.hid (Nat.lt_of_lt_of_le (maskTo_lt o 4) (by decide))
        generalize (o.hi == 0) = z at *
        generalize maskTo o 4 = m at *
        clear CF hlt hk h1 h5 h11
        cases z
        · go_wp2_with (go_at_call 96; ((with_reducible refine (C.out _ (mO.al _)).mono ?_); rintro e w2 ⟨rfl, k3⟩; have mF := (AtC.new _ _ _).then k3; have fc := mF.c; replace mO := (mO.al _).then k3; replace hb := bThen (bAl hb _) k3))
          go_roundw
          case rel => exact ⟨5, by omega, rfl, congrArg (Value.int .u16) ((u16_or_nat m 16 ML.out (by omega)).trans (by rw [HM.out]; rfl)), mO, hb⟩
          case measure => simp [intOf]
        · go_wp2_with (go_at_call 96; ((with_reducible refine (C.out _ (mO.al _)).mono ?_); rintro e w2 ⟨rfl, k3⟩; replace mO := (mO.al _).then k3; replace hb := bThen (bAl hb _) k3))
          go_roundw
          case rel => exact ⟨5, by omega, rfl, congrArg (Value.int .u16) (by rw [HM.out]; rfl), mO, hb⟩
          case measure => simp [intOf]
      · have C := Lib.hid (fun W h => zero5 o w.heap.size W h h5)
        have I := idx5
        have HM := Lib.hid (show maskTo o (5 + 1) = if ((o.digits : Int) == 0) then maskTo o 5 else maskTo o 5 ||| 2 ^ 5 from rfl)
        have ML : Hid (maskTo o 5 < 65536) := Lib.hid (Nat.lt_of_lt_of_le (maskTo_lt o 5) (by decide))
        generalize ((o.digits : Int) == 0) = z at *
        generalize maskTo o 5 = m at *
        clear CF hlt hk h1 h5 h11
        cases z
        · go_wp2_with (go_at_call 96; ((with_reducible refine (C.out _ (mO.al _)).mono ?_); rintro e w2 ⟨rfl, k3⟩; have mF := (AtC.new _ _ _).then k3; have fc := mF.c; replace mO := (mO.al _).then k3; replace hb := bThen (bAl hb _) k3))
          go_roundw
          case rel => exact ⟨6, by omega, rfl, congrArg (Value.int .u16) ((u16_or_nat m 32 ML.out (by omega)).trans (by rw [HM.out]; rfl)), mO, hb⟩
          case measure => simp [intOf]
        · go_wp2_with (go_at_call 96; ((with_reducible refine (C.out _ (mO.al _)).mono ?_); rintro e w2 ⟨rfl, k3⟩; replace mO := (mO.al _).then k3; replace hb := bThen (bAl hb _) k3))
          go_roundw
          case rel => exact ⟨6, by omega, rfl, congrArg (Value.int .u16) (by rw [HM.out]; rfl), mO, hb⟩
          case measure => simp [intOf]
      · have C := Lib.hid (fun W h => zero6 o w.heap.size W h)
        have I := idx6
        have HM := Lib.hid (show maskTo o (6 + 1) = if (boolI o.on == 0) then maskTo o 6 else maskTo o 6 ||| 2 ^ 6 from rfl)
        have ML : Hid (maskTo o 6 < 65536) := Lib.hid (Nat.lt_of_lt_of_le (maskTo_lt o 6) (by decide))
        generalize (boolI o.on == 0) = z at *
        generalize maskTo o 6 = m at *
        clear CF hlt hk h1 h5 h11
        cases z
        · go_wp2_with (go_at_call 96; ((with_reducible refine (C.out _ (mO.al _)).mono ?_); rintro e w2 ⟨rfl, k3⟩; have mF := (AtC.new _ _ _).then k3; have fc := mF.c; replace mO := (mO.al _).then k3; replace hb := bThen (bAl hb _) k3))
          go_roundw
          case rel => exact ⟨7, by omega, rfl, congrArg (Value.int .u16) ((u16_or_nat m 64 ML.out (by omega)).trans (by rw [HM.out]; rfl)), mO, hb⟩
          case measure => simp [intOf]
        · go_wp2_with (go_at_call 96; ((with_reducible refine (C.out _ (mO.al _)).mono ?_); rintro e w2 ⟨rfl, k3⟩; replace mO := (mO.al _).then k3; replace hb := bThen (bAl hb _) k3))
          go_roundw
          case rel => exact ⟨7, by omega, rfl, congrArg (Value.int .u16) (by rw [HM.out]; rfl), mO, hb⟩
          case measure => simp [intOf]
      · have C := Lib.hid (fun W h => zero7 o w.heap.size W h)
        have I := idx7
        have HM := Lib.hid (show maskTo o (7 + 1) = if (boolI o.has == 0) then maskTo o 7 else maskTo o 7 ||| 2 ^ 7 from rfl)
        have ML : Hid (maskTo o 7 < 65536) := Lib.hid (Nat.lt_of_lt_of_le (maskTo_lt o 7) (by decide))
        generalize (boolI o.has == 0) = z at *
        generalize maskTo o 7 = m at *
        clear CF hlt hk h1 h5 h11
        cases z
        · go_wp2_with (go_at_call 96; ((with_reducible refine (C.out _ (mO.al _)).mono ?_); rintro e w2 ⟨rfl, k3⟩; have mF := (AtC.new _ _ _).then k3; have fc := mF.c; replace mO := (mO.al _).then k3; replace hb := bThen (bAl hb _) k3))
          go_roundw
          case rel => exact ⟨8, by omega, rfl, congrArg (Value.int .u16) ((u16_or_nat m 128 ML.out (by omega)).trans (by rw [HM.out]; rfl)), mO, hb⟩
          case measure => simp [intOf]
        · go_wp2_with (go_at_call 96; ((with_reducible refine (C.out _ (mO.al _)).mono ?_); rintro e w2 ⟨rfl, k3⟩; replace mO := (mO.al _).then k3; replace hb := bThen (bAl hb _) k3))
          go_roundw
          case rel => exact ⟨8, by omega, rfl, congrArg (Value.int .u16) (by rw [HM.out]; rfl), mO, hb⟩
          case measure => simp [intOf]
      · have C := Lib.hid (fun W h => zero8 o w.heap.size W h)
        have I := idx8
        have HM := Lib.hid (show maskTo o (8 + 1) = if (o.value == 0) then maskTo o 8 else maskTo o 8 ||| 2 ^ 8 from rfl)
        have ML : Hid (maskTo o 8 < 65536) := Lib.hid (Nat.lt_of_lt_of_le (maskTo_lt o 8) (by decide))
        generalize (o.value == 0) = z at *
        generalize maskTo o 8 = m at *
        clear CF hlt hk h1 h5 h11
        cases z
        · go_wp2_with (go_at_call 96; ((with_reducible refine (C.out _ (mO.al _)).mono ?_); rintro e w2 ⟨rfl, k3⟩; have mF := (AtC.new _ _ _).then k3; have fc := mF.c; replace mO := (mO.al _).then k3; replace hb := bThen (bAl hb _) k3))
          go_roundw
          case rel => exact ⟨9, by omega, rfl, congrArg (Value.int .u16) ((u16_or_nat m 256 ML.out (by omega)).trans (by rw [HM.out]; rfl)), mO, hb⟩
          case measure => simp [intOf]
        · go_wp2_with (go_at_call 96; ((with_reducible refine (C.out _ (mO.al _)).mono ?_); rintro e w2 ⟨rfl, k3⟩; replace mO := (mO.al _).then k3; replace hb := bThen (bAl hb _) k3))
          go_roundw
          case rel => exact ⟨9, by omega, rfl, congrArg (Value.int .u16) (by rw [HM.out]; rfl), mO, hb⟩
          case measure => simp [intOf]
      · have C := Lib.hid (fun W h => zero9 o w.heap.size W h)
        have I := idx9
        have HM := Lib.hid (show maskTo o (9 + 1) = if (o.low == 0) then maskTo o 9 else maskTo o 9 ||| 2 ^ 9 from rfl)
        have ML : Hid (maskTo o 9 < 65536) := Lib.hid (Nat.lt_of_lt_of_le (maskTo_lt o 9) (by decide))
        generalize (o.low == 0) = z at *
        generalize maskTo o 9 = m at *
        clear CF hlt hk h1 h5 h11
        cases z
        · go_wp2_with (go_at_call 96; ((with_reducible refine (C.out _ (mO.al _)).mono ?_); rintro e w2 ⟨rfl, k3⟩; have mF := (AtC.new _ _ _).then k3; have fc := mF.c; replace mO := (mO.al _).then k3; replace hb := bThen (bAl hb _) k3))
          go_roundw
          case rel => exact ⟨10, by omega, rfl, congrArg (Value.int .u16) ((u16_or_nat m 512 ML.out (by omega)).trans (by rw [HM.out]; rfl)), mO, hb⟩
          case measure => simp [intOf]
        · go_wp2_with (go_at_call 96; ((with_reducible refine (C.out _ (mO.al _)).mono ?_); rintro e w2 ⟨rfl, k3⟩; replace mO := (mO.al _).then k3; replace hb := bThen (bAl hb _) k3))
          go_roundw
          case rel => exact ⟨10, by omega, rfl, congrArg (Value.int .u16) (by rw [HM.out]; rfl), mO, hb⟩
          case measure => simp [intOf]
      · have C := Lib.hid (fun W h => zero10 o w.heap.size W h)
        have I := idx10
        have HM := Lib.hid (show maskTo o (10 + 1) = if (o.high == 0) then maskTo o 10 else maskTo o 10 ||| 2 ^ 10 from rfl)
        have ML : Hid (maskTo o 10 < 65536) := Lib.hid (Nat.lt_of_lt_of_le (maskTo_lt o 10) (by decide))
        generalize (o.high == 0) = z at *
        generalize maskTo o 10 = m at *
        clear CF hlt hk h1 h5 h11
        cases z
        · go_wp2_with (go_at_call 96; ((with_reducible refine (C.out _ (mO.al _)).mono ?_); rintro e w2 ⟨rfl, k3⟩; have mF := (AtC.new _ _ _).then k3; have fc := mF.c; replace mO := (mO.al _).then k3; replace hb := bThen (bAl hb _) k3))
          go_roundw
          case rel => exact ⟨11, by omega, rfl, congrArg (Value.int .u16) ((u16_or_nat m 1024 ML.out (by omega)).trans (by rw [HM.out]; rfl)), mO, hb⟩
          case measure => simp [intOf]
        · go_wp2_with (go_at_call 96; ((with_reducible refine (C.out _ (mO.al _)).mono ?_); rintro e w2 ⟨rfl, k3⟩; replace mO := (mO.al _).then k3; replace hb := bThen (bAl hb _) k3))
          go_roundw
          case rel => exact ⟨11, by omega, rfl, congrArg (Value.int .u16) (by rw [HM.out]; rfl), mO, hb⟩
          case measure => simp [intOf]
      · have C := Lib.hid (fun W h => zero11 o w.heap.size W h h11)
        have I := idx11
        have HM := Lib.hid (show maskTo o (11 + 1) = if ((o.assoc : Int) == 0) then maskTo o 11 else maskTo o 11 ||| 2 ^ 11 from rfl)
        have ML : Hid (maskTo o 11 < 65536) := Lib.hid (Nat.lt_of_lt_of_le (maskTo_lt o 11) (by decide))
        generalize ((o.assoc : Int) == 0) = z at *
        generalize maskTo o 11 = m at *
        clear CF hlt hk h1 h5 h11
        cases z
        · go_wp2_with (go_at_call 96; ((with_reducible refine (C.out _ (mO.al _)).mono ?_); rintro e w2 ⟨rfl, k3⟩; have mF := (AtC.new _ _ _).then k3; have fc := mF.c; replace mO := (mO.al _).then k3; replace hb := bThen (bAl hb _) k3))
          go_roundw
          case rel => exact ⟨12, by omega, rfl, congrArg (Value.int .u16) ((u16_or_nat m 2048 ML.out (by omega)).trans (by rw [HM.out]; rfl)), mO, hb⟩
          case measure => simp [intOf]
        · go_wp2_with (go_at_call 96; ((with_reducible refine (C.out _ (mO.al _)).mono ?_); rintro e w2 ⟨rfl, k3⟩; replace mO := (mO.al _).then k3; replace hb := bThen (bAl hb _) k3))
          go_roundw
          case rel => exact ⟨12, by omega, rfl, congrArg (Value.int .u16) (by rw [HM.out]; rfl), mO, hb⟩
          case measure => simp [intOf]
    · obtain rfl : k = 12 := by omega
      go_wp2
      go_ret
      exact ⟨rfl, hb⟩
end Go.Proofs.YtmhilhdmbbdnaaaGreatDoor
