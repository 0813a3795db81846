/-
  The law StampTexts walked.
-/
import Derived.Test.YthdphdmiafkkgaaDoorURefParse
namespace Go.Proofs.YthdphdmiafkkgaaDoor.UX
open Go.RowKit FixMath
set_option maxRecDepth 100000
set_option linter.unusedVariables false
set_option linter.unusedSimpArgs false

theorem txV_form (d s : Int) : ∃ (t : ByteArray) (e : Int), txV d s = .tuple #[.string t, .int .i64 e] := by
  unfold txV
  split
  · exact ⟨_, _, rfl⟩
  · exact ⟨_, _, rfl⟩
theorem eqS_same (a b : Int) : eqS a b a b = true := by simp [eqS]
set_option maxHeartbeats 4000000 in
theorem texts_walk (a b : Int) (l : Bs) (w : World) (hE : EnvT w) (hm : l.length ≤ maxLen) : Calls Tryd.prog 4 #[sp a b, str l] w fun e w' => e = .returned (.bool true) ∧ Below w.heap.size w w' := by
  have hml := hm
  unfold maxLen at hm
  have hb : Below w.heap.size w w := Below.refl _ _
  by_cases h200 : 200 < l.length
  · have i1 : (200 : Int) < (l.length : Int) := by omega
    go_enter Tryd.func4, Tryd.ntmps4
    go_wp2
    go_ret
    exact ⟨rfl, bAl hb _⟩
  · have i1 : ¬ (200 : Int) < (l.length : Int) := by omega
    have C1 := Lib.hid (fun (W : World) (k : Below w.heap.size w W) => stText_any a b W (hE.then k).pow)
    have C2 := Lib.hid (fun (W : World) => refText15_any a b W)
    have C3 := Lib.hid (fun (W : World) (k : Below w.heap.size w W) => stParse_any l W (by omega) (hE.then k))
    have C4 := Lib.hid (fun (W : World) => refParse15_any ⟨l.toArray⟩ W (by simpa [ByteArray.size] using hml))
    rw [show (⟨l.toArray⟩ : ByteArray).data.toList = l from rfl] at C4
    obtain ⟨t, e, ht⟩ := txV_form a b
    rw [ht] at C1 C2
    obtain ⟨X, hX⟩ : ∃ X : Int, (paD l : Int) = X := ⟨_, rfl⟩
    obtain ⟨Y, hY⟩ : ∃ Y : Int, (paS l : Int) = Y := ⟨_, rfl⟩
    obtain ⟨E, hEe⟩ : ∃ E : Int, paE l = E := ⟨_, rfl⟩
    have hPV : paV l = .tuple #[sp X Y, .int .i64 E] := by unfold paV; rw [hX, hY, hEe]
    rw [hPV] at C3 C4
    have hQ := fun W => (run_eqSt W X Y X Y).trans (by rw [eqS_same])
    clear hE ht hX hY hEe hPV hml
    go_enter Tryd.func4, Tryd.ntmps4
    go_wp2_with (first
      | (go_at_call 13; ((with_reducible refine (C1.out _ (bAl hb _)).mono ?_); rintro e w1 ⟨rfl, k1⟩; have m1 := (At2.new w a b 23).then k1; replace hb := bThen (bAl hb _) k1; have m10 := m1.c0; have m11 := m1.c1; have m1l := m1.lt))
      | (go_at_call 14; ((with_reducible refine (C2.out _).mono ?_); rintro e w2 ⟨rfl, k2⟩; replace hb := bThen hb k2))
      | (go_at_call 15; ((with_reducible refine (C3.out _ hb).mono ?_); rintro e w3 ⟨rfl, k3⟩; replace hb := bThen hb k3; have x3 := At2.new w3 X Y 23))
      | (go_at_call 16; ((with_reducible refine (C4.out _).mono ?_); rintro e w4 ⟨rfl, k4⟩; replace hb := bThen (bAl hb _) k4; have x4 := x3.then k4; have x40 := x4.c0; have x41 := x4.c1; have x4l := x4.lt)))
    go_ret
    exact ⟨by simp, bAl hb _⟩
end Go.Proofs.YthdphdmiafkkgaaDoor.UX
