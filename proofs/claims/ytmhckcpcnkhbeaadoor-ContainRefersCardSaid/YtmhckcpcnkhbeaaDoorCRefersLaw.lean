/-
  WALK: the law ContainRefers.
-/
import Derived.Test.YtmhckcpcnkhbeaaDoorCAwake
namespace Go.Proofs.YtmhckcpcnkhbeaaDoor
open Go.RowKit
set_option maxRecDepth 100000
set_option linter.unusedVariables false
set_option linter.unusedSimpArgs false

theorem refers_facts {k t : Nat} (h : refersTo k t = true) : underB k 5 = true ∧ (t = 4 ∨ t ≠ 4 ∧ underB t 5 = true) ∧ refersTo t k = false ∧ k ≠ t := by
  have hk : k = 6 ∨ k = 7 ∨ k = 8 := by unfold refersTo at h; split at h <;> first | omega | cases h
  have ht : t < 10 := by rcases hk with rfl | rfl | rfl <;> simp [refersTo] at h <;> omega
  have q := (show ∀ k, k < 10 → ∀ t, t < 10 → (!refersTo k t || (underB k 5 && (t == 4 || (t != 4 && underB t 5)) && !refersTo t k && k != t)) = true by decide +kernel) k (by omega) t ht
  rw [h] at q
  simpa [and_assoc] using q
theorem under5_any (k : Nat) (w : World) (hk : k ≤ 255) (hw : Tables w) : Calls Tryd.prog 18 #[.int .u8 k, .int .u8 5] w fun e w' => e = .returned (.bool (underB k 5)) ∧ Below w.heap.size w w' := under_any k 5 w hk (by omega) hw
set_option maxHeartbeats 4000000 in
theorem refers_walk (k t : Nat) (w : World) (hk : k ≤ 255) (ht : t ≤ 255) (hw : Tables w) : Calls Tryd.prog 9 #[.int .u8 k, .int .u8 t] w fun e w' => e = .returned (.bool true) ∧ Below w.heap.size w w' := by
  have hb : Below w.heap.size w w := Below.refl _ _
  have CA := Lib.hid (awake_any w hw)
  have C1 := Lib.hid (fun W (q : Below w.heap.size w W) => refers_any k t W hk ht (hw.then q))
  rcases (show refersTo k t = false ∨ refersTo k t = true by cases refersTo k t <;> simp) with h | h
  · rw [h] at C1
    clear h hw
    go_enter Tryd.func9, Tryd.ntmps9
    go_wp2_with (first
      | (go_at_call 33; ((with_reducible refine CA.out.mono ?_); rintro e w1 ⟨rfl, k1⟩; replace hb := bThen hb k1))
      | (go_at_call 20; ((with_reducible refine (C1.out _ hb).mono ?_); rintro e w2 ⟨rfl, k2⟩; replace hb := bThen hb k2)))
    go_ret
    exact ⟨rfl, hb⟩
  · obtain ⟨q1, q2, q3, q4⟩ := refers_facts h
    have C2 := Lib.hid (fun W (q : Below w.heap.size w W) => under5_any k W hk (hw.then q))
    have C3 := Lib.hid (fun W (q : Below w.heap.size w W) => under5_any t W ht (hw.then q))
    have C4 := Lib.hid (fun W (q : Below w.heap.size w W) => refers_any t k W ht hk (hw.then q))
    rw [h] at C1
    rw [q1] at C2
    rw [q3] at C4
    have i1 : ((k : Int) == (t : Int)) = false := by simp; omega
    have i2 : ((k : Int) != (t : Int)) = true := by simp; omega
    clear h q1 q3 hw q4
    rcases q2 with q2 | ⟨q2, q5⟩
    · have i3 : ((t : Int) == 4) = true := by simp; omega
      clear q2 C3
      go_enter Tryd.func9, Tryd.ntmps9
      go_wp2_with (first
        | (go_at_call 33; ((with_reducible refine CA.out.mono ?_); rintro e w1 ⟨rfl, k1⟩; replace hb := bThen hb k1))
        | (go_at_call 20; first | ((with_reducible refine (C1.out _ hb).mono ?_); rintro e w2 ⟨rfl, k2⟩; replace hb := bThen hb k2) | ((with_reducible refine (C4.out _ hb).mono ?_); rintro e w2 ⟨rfl, k2⟩; replace hb := bThen hb k2))
        | (go_at_call 18; ((with_reducible refine (C2.out _ hb).mono ?_); rintro e w2 ⟨rfl, k2⟩; replace hb := bThen hb k2)))
      go_ret
      exact ⟨rfl, hb⟩
    · have i3 : ((t : Int) == 4) = false := by simp; omega
      rw [q5] at C3
      clear q2 q5
      go_enter Tryd.func9, Tryd.ntmps9
      go_wp2_with (first
        | (go_at_call 33; ((with_reducible refine CA.out.mono ?_); rintro e w1 ⟨rfl, k1⟩; replace hb := bThen hb k1))
        | (go_at_call 20; first | ((with_reducible refine (C1.out _ hb).mono ?_); rintro e w2 ⟨rfl, k2⟩; replace hb := bThen hb k2) | ((with_reducible refine (C4.out _ hb).mono ?_); rintro e w2 ⟨rfl, k2⟩; replace hb := bThen hb k2))
        | (go_at_call 18; first | ((with_reducible refine (C2.out _ hb).mono ?_); rintro e w2 ⟨rfl, k2⟩; replace hb := bThen hb k2) | ((with_reducible refine (C3.out _ hb).mono ?_); rintro e w2 ⟨rfl, k2⟩; replace hb := bThen hb k2)))
      go_ret
      exact ⟨rfl, hb⟩
end Go.Proofs.YtmhckcpcnkhbeaaDoor
