/-
  WALKS: Rising (the program's and the document's).
-/
import Derived.Test.YtlfbjgeobibnhaaDoorRZ11
import Derived.IntWalk
namespace Go.Proofs.YtlfbjgeobibnhaaDoor.HL
open Go.RowKit
set_option maxRecDepth 100000
set_option linter.unusedVariables false
set_option linter.unusedSimpArgs false

theorem asc_take {l : List Bs} {k : Nat} (h0 : 1 ≤ k) (h : k < l.length) (ha : Asc (l.take k)) (hl : l[k - 1]'(by omega) < l[k]) : Asc (l.take (k + 1)) := by
  rw [List.take_succ_eq_append_getElem h]
  refine asc_snoc ha fun y hy => ?_
  obtain ⟨i, hi, rfl⟩ := List.getElem_of_mem hy
  simp only [List.length_take] at hi
  by_cases e : i = k - 1
  · subst e; rw [List.getElem_take]; exact hl
  · have := List.pairwise_iff_getElem.1 ha i (k - 1) (by simp; omega) (by simp; omega) (by omega)
    rw [List.getElem_take] at this
    exact lt_trans (by simpa using this) hl
theorem asc_not {l : List Bs} {k : Nat} (h0 : 1 ≤ k) (h : k < l.length) (hl : ¬ l[k - 1]'(by omega) < l[k]) : ¬ Asc l := fun ha => hl (List.pairwise_iff_getElem.1 ha (k - 1) k (by omega) h (by omega))

set_option maxHeartbeats 1000000 in
theorem rising_any (A : Option Addr) (c : Nat) (l : List Bs) (B : Nat) (w : World) (h : Strs w B A l) (hn : l.length ≤ maxLen) :
    Calls Tryd.prog 25 #[.slice A l.length c] w fun e w' => e = .returned (.bool (decide (Asc l))) ∧ Dr w w' := by
  unfold maxLen at hn
  go_enter Tryd.func25, Tryd.ntmps25
  go_wp2
  go_loopw [3] (fun i w' => ∃ k : Nat, i = .int .i64 k ∧ Dr w w' ∧ 1 ≤ k ∧ (k ≤ l.length ∨ k = 1) ∧ Asc (l.take k)) (fun i _ => l.length - (intOf i).toNat)
  case atStart => exact ⟨1, rfl, Dr.refl w, Nat.le_refl _, .inr rfl, by
    cases l with
    | nil => exact List.Pairwise.nil
    | cons x l => simp [Asc]⟩
  case round =>
    obtain ⟨k, rfl, ⟨n, rfl⟩, hk1, hk, ha⟩ := hrel
    have HA := Lib.hid ha
    clear ha
    by_cases hlt : k < l.length
    · obtain ⟨b, o, rfl, _, hc⟩ := h.at_ (by omega)
      have hx1 := hc (k - 1) _ (List.getElem?_eq_getElem (by omega))
      have hx2 := hc k _ (List.getElem?_eq_getElem hlt)
      have i1 : (k : Int) < (l.length : Int) := by omega
      have i2 : (k : Int) - 1 < (l.length : Int) := by omega
      have i3 : 1 ≤ (k : Int) := by omega
      clear hc h hk
      by_cases he : l[k - 1]'(by omega) < l[k]
      · have HR := Lib.hid (asc_take hk1 hlt HA.out he)
        have hb : Op.bytesLess (l[k - 1]'(by omega)) l[k] = true := by rw [bytesLess_eq]; exact decide_eq_true he
        clear he
        go_wp2
        go_quiet (fail)
        go_wp2
        go_roundw
        case rel => exact ⟨k + 1, by go_num, by first | exact Dr.one _ _ | exact Dr.two _ _ _ | exact Dr.three _ _ _ _ | exact Dr.refl _, by omega, .inl (by omega), HR.out⟩
        case measure => simp [intOf]; omega
      · have HV : Hid (decide (Asc l) = false) := Lib.hid (decide_eq_false (asc_not hk1 hlt he))
        have hb : Op.bytesLess (l[k - 1]'(by omega)) l[k] = false := by rw [bytesLess_eq]; exact decide_eq_false he
        clear he
        go_wp2
        go_quiet (fail)
        go_wp2
        go_ret
        exact ⟨by rw [HV.out]; rfl, by first | exact Dr.one _ _ | exact Dr.two _ _ _ | exact Dr.three _ _ _ _ | exact Dr.refl _⟩
    · have HV : Hid (decide (Asc l) = true) := Lib.hid (decide_eq_true (by have := HA.out; rwa [List.take_of_length_le (by omega)] at this))
      have hge : l.length ≤ k := by omega
      clear hk
      go_wp2
      go_ret
      exact ⟨by rw [HV.out]; rfl, by first | exact Dr.one _ _ | exact Dr.two _ _ _ | exact Dr.three _ _ _ _ | exact Dr.refl _⟩

theorem Dr.step {w wr : World} (h : Dr w wr) (q : Nat) : Dr w (wr.drewN q) := by
  obtain ⟨n, rfl⟩ := h
  exact Dr.two _ _ _
theorem Dr.cell {w wr : World} (h : Dr w wr) (a : Addr) : wr.cell? a = w.cell? a := by
  obtain ⟨n, rfl⟩ := h
  rfl

end Go.Proofs.YtlfbjgeobibnhaaDoor.HL
