/-
  WALK: the document's Same of two rows of the same objects.
-/
import Derived.Test.YtlfbjgeobibnhaaDoorRZRPlayed
import Derived.Laws.StructEq
namespace Go.Proofs.YtlfbjgeobibnhaaDoor.TX
open Go.RowKit HL
open IX (ptr El cellsK cellsK_at OwnK IxAt Rw numOf mayS strK RdK keys)
set_option maxRecDepth 100000
set_option linter.unusedVariables false
set_option linter.unusedSimpArgs false

set_option maxHeartbeats 4000000 in
theorem sameO_yes (A1 A2 : Option Addr) (c1 c2 m : Nat) (l : List Ob) (w : World) (h1 : RdK obK w w.heap.size A1 l) (h2 : RdK obK w w.heap.size A2 l) (hm : l.length = m) (hn : m ≤ 1000000) :
    Calls Tryd.prog 28 #[.slice A1 m c1, .slice A2 m c2] w fun e w' => e = .returned (.bool true) ∧ Below w.heap.size w w' := by
  subst hm
  have H1 := Lib.hid h1
  have H2 := Lib.hid h2
  clear h1 h2
  go_enter Tryd.func28, Tryd.ntmps28
  go_wp2
  go_loopw [5] (fun i wr => ∃ k : Nat, i = .int .i64 k ∧ k ≤ l.length ∧ Below w.heap.size w wr) (fun i _ => l.length - (intOf i).toNat)
  case atStart => exact ⟨0, rfl, Nat.zero_le _, Below.refl _ _⟩
  case round =>
    obtain ⟨k, rfl, hk, k1⟩ := hrel
    by_cases hlt : k < l.length
    · obtain ⟨b, off, rfl, hb1, hc⟩ := obs_at (H1.out.below k1) (by omega)
      obtain ⟨b2, off2, rfl, hb2, hc2⟩ := obs_at (H2.out.below k1) (by omega)
      obtain ⟨p0, p1, p2, p3, p4, p5, p6, p7, p8, p9, p10, p11, p12, p13⟩ := hc k _ (List.getElem?_eq_getElem hlt)
      obtain ⟨q0, q1, q2, q3, q4, q5, q6, q7, q8, q9, q10, q11, q12, q13⟩ := hc2 k _ (List.getElem?_eq_getElem hlt)
      have i1 : (k : Int) < l.length := by omega
      have K1 := Lib.hid k1
      clear hc hc2 k1
      generalize l[k] = o at *
      go_wp2
      go_quiet (fail)
      go_wp2
      go_roundw
      case rel => exact ⟨k + 1, by go_num, by omega, K1.out.trans ⟨rfl, rfl, rfl, Nat.le_refl _, fun _ _ => rfl⟩⟩
      case measure => simp [intOf]; omega
    · obtain rfl : k = l.length := by omega
      have i1 : ¬ (l.length : Int) < l.length := by omega
      go_wp2
      go_ret
      exact ⟨rfl, k1⟩
end Go.Proofs.YtlfbjgeobibnhaaDoor.TX
