/-
  The law StampBack walked.
-/
import Derived.Test.YthdphdmiafkkgaaDoorUAwake
namespace Go.Proofs.YthdphdmiafkkgaaDoor.UX
open Go.RowKit FixMath
set_option maxRecDepth 100000
set_option linter.unusedVariables false
set_option linter.unusedSimpArgs false

theorem eqS_me (a b : Int) : eqS a b a b = true := by simp [eqS]
set_option maxHeartbeats 4000000 in
theorem back15_walk (a b : Int) (l : Bs) (w : World) (hE : Env w) (hm : l.length ≤ maxLen) : Calls Tryd.prog 7 #[sp a b, str l] w fun e w' => e = .returned (.bool true) ∧ Below w.heap.size w w' := by
  unfold maxLen at hm
  have hb : Below w.heap.size w w := Below.refl _ _
  have CA := Lib.hid (awake15_any _ (hE.then (bAl hb (.cells #[.int .i64 a, .int .i64 b] 23))))
  by_cases h200 : 200 < l.length
  · have i1 : (200 : Int) < (l.length : Int) := by omega
    clear hE
    go_enter Tryd.func7, Tryd.ntmps7
    go_wp2_with (go_at_call 17; ((refine CA.out.mono ?_); rintro e w1 ⟨rfl, k1⟩; replace hb := bThen (bAl hb _) k1))
    go_ret
    exact ⟨rfl, hb⟩
  · have i1 : ¬ (200 : Int) < (l.length : Int) := by omega
    have C1 := Lib.hid (fun (W : World) (k : Below w.heap.size w W) => stText_any a b W (hE.then k).txt.pow)
    have C2 := Lib.hid (fun (W : World) => stMay_any a b W)
    have C4 := Lib.hid (fun (W : World) (k : Below w.heap.size w W) => stParse_any l W (by omega) (hE.then k).txt)
    have hQ := fun W => (run_eqSt W a b a b).trans (by rw [eqS_me])
    have hZ := fun W => (run_eqSt W 0 0 0 0).trans (by rw [eqS_me])
    cases h1 : mayS a b
    · rw [txV_n h1] at C1
      rw [h1] at C2
      clear h1
      by_cases hT : ∃ d t, isTx l d t
      · obtain ⟨x, y, hxy⟩ := hT
        rw [paV_yes hxy] at C4
        have C5 := Lib.hid (fun (W : World) (k : Below w.heap.size w W) => stText_any (x : Int) (y : Int) W (hE.then k).txt.pow)
        rw [txV_y hxy.1, ← hxy.2] at C5
        clear hE hxy
        generalize (x : Int) = x at *
        generalize (y : Int) = y at *
        go_enter Tryd.func7, Tryd.ntmps7
        go_wp2_with (first
          | (go_at_call 17; ((refine CA.out.mono ?_); rintro e w1 ⟨rfl, k1⟩; have m1 := (At2.new w a b 23).then k1; replace hb := bThen (bAl hb _) k1; have m10 := m1.c0; have m11 := m1.c1))
          | (go_at_call 19; ((refine (C2.out _).mono ?_); rintro e w3 ⟨rfl, k3⟩; replace m1 := m1.then k3; replace hb := bThen hb k3; have m20 := m1.c0; have m21 := m1.c1))
          | (go_at_call 13; first | ((with_reducible refine (C1.out _ hb).mono ?_); rintro e w2 ⟨rfl, k2⟩; replace m1 := m1.then k2; replace hb := bThen hb k2; have m30 := m1.c0; have m31 := m1.c1) | ((with_reducible refine (C5.out _ hb).mono ?_); rintro e w6 ⟨rfl, k6⟩; replace hb := bThen hb k6))
          | (go_at_call 15; first | ((with_reducible refine (C4.out _ hb).mono ?_); rintro e w5 ⟨rfl, k5⟩; have x5 := At2.new w5 x y 23; have x50 := x5.c0; have x51 := x5.c1; replace hb := bAl (bThen hb k5) (.cells #[.int .i64 x, .int .i64 y] 23))))
        go_ret
        exact ⟨rfl, hb⟩
      · rw [paV_no hT] at C4
        clear hE hT
        go_enter Tryd.func7, Tryd.ntmps7
        go_wp2_with (first
          | (go_at_call 17; ((refine CA.out.mono ?_); rintro e w1 ⟨rfl, k1⟩; have m1 := (At2.new w a b 23).then k1; replace hb := bThen (bAl hb _) k1; have m10 := m1.c0; have m11 := m1.c1))
          | (go_at_call 19; ((refine (C2.out _).mono ?_); rintro e w3 ⟨rfl, k3⟩; replace m1 := m1.then k3; replace hb := bThen hb k3; have m20 := m1.c0; have m21 := m1.c1))
          | (go_at_call 13; first | ((with_reducible refine (C1.out _ hb).mono ?_); rintro e w2 ⟨rfl, k2⟩; replace m1 := m1.then k2; replace hb := bThen hb k2; have m30 := m1.c0; have m31 := m1.c1))
          | (go_at_call 15; first | ((with_reducible refine (C4.out _ hb).mono ?_); rintro e w5 ⟨rfl, k5⟩; have x5 := At2.new w5 0 0 23; have x50 := x5.c0; have x51 := x5.c1; replace hb := bAl (bThen hb k5) (.cells #[.int .i64 0, .int .i64 0] 23))))
        go_ret
        exact ⟨rfl, hb⟩
    · have bd := may_bd h1
      obtain ⟨a, rfl⟩ := Int.eq_ofNat_of_zero_le bd.1
      obtain ⟨b, rfl⟩ := Int.eq_ofNat_of_zero_le bd.2.2.1
      have C3 := Lib.hid (fun (W : World) (k : Below w.heap.size w W) => stParse_any (txS a b) W (by have := txS_len (a := a) (b := b) (by omega) (by omega); omega) (hE.then k).txt)
      rw [paV_yes (l := txS a b) (d := a) (s := b) ⟨h1, rfl⟩] at C3
      rw [txV_y h1] at C1
      rw [h1] at C2
      clear h1 bd
      generalize txS a b = T at *
      generalize (a : Int) = a at *
      generalize (b : Int) = b at *
      by_cases hT : ∃ d t, isTx l d t
      · obtain ⟨x, y, hxy⟩ := hT
        rw [paV_yes hxy] at C4
        have C5 := Lib.hid (fun (W : World) (k : Below w.heap.size w W) => stText_any (x : Int) (y : Int) W (hE.then k).txt.pow)
        rw [txV_y hxy.1, ← hxy.2] at C5
        clear hE hxy
        generalize (x : Int) = x at *
        generalize (y : Int) = y at *
        go_enter Tryd.func7, Tryd.ntmps7
        go_wp2_with (first
          | (go_at_call 17; ((refine CA.out.mono ?_); rintro e w1 ⟨rfl, k1⟩; have m1 := (At2.new w a b 23).then k1; replace hb := bThen (bAl hb _) k1; have m10 := m1.c0; have m11 := m1.c1))
          | (go_at_call 19; ((refine (C2.out _).mono ?_); rintro e w3 ⟨rfl, k3⟩; replace m1 := m1.then k3; replace hb := bThen hb k3; have m20 := m1.c0; have m21 := m1.c1))
          | (go_at_call 13; first | ((with_reducible refine (C1.out _ hb).mono ?_); rintro e w2 ⟨rfl, k2⟩; replace m1 := m1.then k2; replace hb := bThen hb k2; have m30 := m1.c0; have m31 := m1.c1) | ((with_reducible refine (C5.out _ hb).mono ?_); rintro e w6 ⟨rfl, k6⟩; replace hb := bThen hb k6))
          | (go_at_call 15; first | ((with_reducible refine (C3.out _ hb).mono ?_); rintro e w4 ⟨rfl, k4⟩; replace m1 := (m1.then k4).al (.cells #[.int .i64 a, .int .i64 b] 23); have x4 := At2.new w4 a b 23; have x40 := x4.c0; have x41 := x4.c1; have m40 := m1.c0; have m41 := m1.c1; have m4l := m1.lt; replace hb := bAl (bThen hb k4) (.cells #[.int .i64 a, .int .i64 b] 23)) | ((with_reducible refine (C4.out _ hb).mono ?_); rintro e w5 ⟨rfl, k5⟩; have x5 := At2.new w5 x y 23; have x50 := x5.c0; have x51 := x5.c1; replace hb := bAl (bThen hb k5) (.cells #[.int .i64 x, .int .i64 y] 23))))
        go_ret
        exact ⟨rfl, hb⟩
      · rw [paV_no hT] at C4
        clear hE hT
        go_enter Tryd.func7, Tryd.ntmps7
        go_wp2_with (first
          | (go_at_call 17; ((refine CA.out.mono ?_); rintro e w1 ⟨rfl, k1⟩; have m1 := (At2.new w a b 23).then k1; replace hb := bThen (bAl hb _) k1; have m10 := m1.c0; have m11 := m1.c1))
          | (go_at_call 19; ((refine (C2.out _).mono ?_); rintro e w3 ⟨rfl, k3⟩; replace m1 := m1.then k3; replace hb := bThen hb k3; have m20 := m1.c0; have m21 := m1.c1))
          | (go_at_call 13; first | ((with_reducible refine (C1.out _ hb).mono ?_); rintro e w2 ⟨rfl, k2⟩; replace m1 := m1.then k2; replace hb := bThen hb k2; have m30 := m1.c0; have m31 := m1.c1))
          | (go_at_call 15; first | ((with_reducible refine (C3.out _ hb).mono ?_); rintro e w4 ⟨rfl, k4⟩; replace m1 := (m1.then k4).al (.cells #[.int .i64 a, .int .i64 b] 23); have x4 := At2.new w4 a b 23; have x40 := x4.c0; have x41 := x4.c1; have m40 := m1.c0; have m41 := m1.c1; have m4l := m1.lt; replace hb := bAl (bThen hb k4) (.cells #[.int .i64 a, .int .i64 b] 23)) | ((with_reducible refine (C4.out _ hb).mono ?_); rintro e w5 ⟨rfl, k5⟩; have x5 := At2.new w5 0 0 23; have x50 := x5.c0; have x51 := x5.c1; replace hb := bAl (bThen hb k5) (.cells #[.int .i64 0, .int .i64 0] 23))))
        go_ret
        exact ⟨rfl, hb⟩
end Go.Proofs.YthdphdmiafkkgaaDoor.UX
