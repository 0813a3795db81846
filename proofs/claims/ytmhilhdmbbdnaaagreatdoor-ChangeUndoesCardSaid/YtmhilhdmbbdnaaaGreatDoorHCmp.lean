/-
  WALK: the document's Compare, and the program's: both give the order of the two texts' bytes.
-/
import Derived.Test.YtmhilhdmbbdnaaaGreatDoorHRefMay
import Derived.Shelf.Small.Strs
import Derived.Test.YtmhilhdmbbdnaaaGreatDoorShelf
namespace Go.Proofs.YtmhilhdmbbdnaaaGreatDoor.HL
open Go.RowKit
set_option maxRecDepth 100000
set_option linter.unusedVariables false

theorem drop_cons (s : ByteArray) (k : Nat) (h : k < s.size) : s.data.toList.drop k = (s[k]'h) :: s.data.toList.drop (k + 1) := by
  have h2 : k < s.data.toList.length := by simpa using h
  rw [List.drop_eq_getElem_cons h2]
  rfl
theorem drop_all (s : ByteArray) (k : Nat) (h : ¬ k < s.size) : s.data.toList.drop k = [] := by
  apply List.drop_eq_nil_of_le
  simp; omega

/-- w' is w but for draws. -/
def Dr (w w' : World) : Prop := ∃ n, w' = w.drewN n
theorem Dr.refl (w : World) : Dr w w := ⟨0, rfl⟩
theorem Dr.one (w : World) (a : Nat) : Dr w (w.drewN a) := ⟨a, rfl⟩
theorem Dr.two (w : World) (a b : Nat) : Dr w ((w.drewN a).drewN b) := ⟨_, World.drewN_drewN _ _ _⟩
theorem Dr.three (w : World) (a b c : Nat) : Dr w (((w.drewN a).drewN b).drewN c) := ⟨_, by rw [World.drewN_drewN, World.drewN_drewN]⟩
theorem Dr.below {w w' : World} (h : Dr w w') (B : Nat) : Below B w w' := by
  obtain ⟨n, rfl⟩ := h
  exact ⟨rfl, rfl, rfl, Nat.le_refl _, fun _ _ => rfl⟩

theorem compare_any (a b : ByteArray) (w : World) : Calls Tryz.prog 40 #[.string a, .string b] w fun e w' => e = .returned (.int .i64 (Lib.compareBytes a.data.toList b.data.toList)) ∧ w = w' := by
  go_enter Tryz.func40, Tryz.ntmps40
  go_wp2_with (go_at_call 60; refine (Tryz.strings_Compare _ _ _).mono ?_; rintro e w' ⟨rfl, rfl⟩)
  go_ret
  exact ⟨rfl, rfl⟩

set_option maxHeartbeats 1000000 in
theorem refCompare_any (a b : ByteArray) (w : World) (ha : a.size ≤ maxLen) (hb : b.size ≤ maxLen) :
    Calls Tryz.prog 48 #[.string a, .string b] w fun e w' => e = .returned (.int .i64 (Lib.compareBytes a.data.toList b.data.toList)) ∧ Dr w w' := by
  unfold maxLen at ha hb
  go_enter Tryz.func48, Tryz.ntmps48
  go_wp2
  go_loopw [5] (fun i w' => ∃ k : Nat, i = .int .i64 k ∧ Dr w w' ∧ k ≤ a.size ∧ k ≤ b.size ∧ Lib.compareBytes a.data.toList b.data.toList = Lib.compareBytes (a.data.toList.drop k) (b.data.toList.drop k)) (fun i _ => a.size - (intOf i).toNat)
  case atStart => exact ⟨0, rfl, Dr.refl w, Nat.zero_le _, Nat.zero_le _, by simp⟩
  case round =>
    obtain ⟨k, rfl, ⟨n, rfl⟩, hka, hkb, hc⟩ := hrel
    have HC := Lib.hid hc
    clear hc
    by_cases h1 : k < a.size
    · by_cases h2 : k < b.size
      · have HA := Lib.hid (drop_cons a k h1)
        have HB := Lib.hid (drop_cons b k h2)
        have i1 : (k : Int) < (a.size : Int) := by omega
        have i2 : (k : Int) < (b.size : Int) := by omega
        by_cases hl : (a[k]'h1).toNat < (b[k]'h2).toNat
        · have hl2 : decide ((a[k]'h1).toNat < (b[k]'h2).toNat) = true := by simp; omega
          have HV : Hid (Lib.compareBytes a.data.toList b.data.toList = -1) := Lib.hid (by
            rw [HC.out, HA.out, HB.out, Lib.compareBytes, if_pos (UInt8.lt_iff_toNat_lt.2 hl)])
          clear HC HA HB
          go_wp2
          go_quiet (fail)
          go_wp2
          go_ret
          exact ⟨by rw [HV.out]; rfl, by first | exact Dr.one _ _ | exact Dr.two _ _ _ | exact Dr.three _ _ _ _ | exact Dr.refl _⟩
        · have hl2 : decide ((a[k]'h1).toNat < (b[k]'h2).toNat) = false := by simp; omega
          by_cases hg : (b[k]'h2).toNat < (a[k]'h1).toNat
          · have HV : Hid (Lib.compareBytes a.data.toList b.data.toList = 1) := Lib.hid (by
              rw [HC.out, HA.out, HB.out, Lib.compareBytes, if_neg (fun h => hl (UInt8.lt_iff_toNat_lt.1 h)), if_pos (UInt8.lt_iff_toNat_lt.2 hg)])
            have hg2 : decide ((b[k]'h2).toNat < (a[k]'h1).toNat) = true := by simp; omega
            clear HC HA HB hl
            go_wp2
            go_quiet (fail)
            go_wp2
            go_quiet (fail)
            go_wp2
            go_ret
            exact ⟨by rw [HV.out]; rfl, by first | exact Dr.one _ _ | exact Dr.two _ _ _ | exact Dr.three _ _ _ _ | exact Dr.refl _⟩
          · have HR : Hid (Lib.compareBytes a.data.toList b.data.toList = Lib.compareBytes (a.data.toList.drop (k + 1)) (b.data.toList.drop (k + 1))) := Lib.hid (by
              rw [HC.out, HA.out, HB.out, Lib.compareBytes, if_neg (fun h => hl (UInt8.lt_iff_toNat_lt.1 h)), if_neg (fun h => hg (UInt8.lt_iff_toNat_lt.1 h))])
            have hg2 : decide ((b[k]'h2).toNat < (a[k]'h1).toNat) = false := by simp; omega
            clear HC HA HB hl hg
            go_wp2
            go_quiet (fail)
            go_wp2
            go_quiet (fail)
            go_wp2
            go_roundw
            case rel => exact ⟨k + 1, by go_num, by first | exact Dr.one _ _ | exact Dr.two _ _ _ | exact Dr.three _ _ _ _ | exact Dr.refl _, by omega, by omega, HR.out⟩
            case measure => simp [intOf]; omega
      · have e2 : k = b.size := by omega
        subst e2
        have HA := Lib.hid (drop_cons a b.size h1)
        have HB := Lib.hid (drop_all b b.size h2)
        have HV : Hid (Lib.compareBytes a.data.toList b.data.toList = 1) := Lib.hid (by rw [HC.out, HA.out, HB.out, Lib.compareBytes])
        have i1 : (b.size : Int) < (a.size : Int) := by omega
        have d1 : decide (a.size < b.size) = false := by simp; omega
        clear HC HA HB h2
        go_wp2
        go_ret
        exact ⟨by rw [HV.out]; rfl, by first | exact Dr.one _ _ | exact Dr.two _ _ _ | exact Dr.three _ _ _ _ | exact Dr.refl _⟩
    · have e1 : k = a.size := by omega
      subst e1
      have HA := Lib.hid (drop_all a a.size h1)
      have d0 : decide (a.size < a.size) = false := by simp
      clear h1
      by_cases h2 : a.size < b.size
      · have HB := Lib.hid (drop_cons b a.size h2)
        have HV : Hid (Lib.compareBytes a.data.toList b.data.toList = -1) := Lib.hid (by rw [HC.out, HA.out, HB.out, Lib.compareBytes])
        have i1 : (a.size : Int) < (b.size : Int) := by omega
        clear HC HA HB
        go_wp2
        go_ret
        exact ⟨by rw [HV.out]; rfl, by first | exact Dr.one _ _ | exact Dr.two _ _ _ | exact Dr.three _ _ _ _ | exact Dr.refl _⟩
      · have HB := Lib.hid (drop_all b a.size h2)
        have HV : Hid (Lib.compareBytes a.data.toList b.data.toList = 0) := Lib.hid (by rw [HC.out, HA.out, HB.out, Lib.compareBytes])
        have d1 : decide (a.size < b.size) = false := by simp; omega
        have d2 : decide (b.size < a.size) = false := by simp; omega
        clear HC HA HB
        go_wp2
        go_ret
        exact ⟨by rw [HV.out]; rfl, by first | exact Dr.one _ _ | exact Dr.two _ _ _ | exact Dr.three _ _ _ _ | exact Dr.refl _⟩
end Go.Proofs.YtmhilhdmbbdnaaaGreatDoor.HL
