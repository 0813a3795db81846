/-
  WALKS: the document's Of; the law StampTells.
-/
import Derived.Test.YthdphdmiafkkgaaUMay
import Derived.Deep.RegionHeld3
namespace Go.Proofs.Ythdphdmiafkkgaa.UX
open Go.RowKit FixMath
set_option maxRecDepth 100000
set_option linter.unusedVariables false
set_option linter.unusedSimpArgs false

theorem refOf_any (a b c d : Int) (w : World) : Calls Try.prog 7 #[sp a b, sp c d] w fun e w' => e = .returned (.int .u8 (ofS a b c d)) ∧ Below w.heap.size w w' := by
  have hb : Below w.heap.size w w := Below.refl _ _
  have key : (a ≤ c ∧ b ≤ d) ∨ (¬ a ≤ c) ∨ (a ≤ c ∧ ¬ b ≤ d) := by omega
  have key2 : (c ≤ a ∧ d ≤ b) ∨ (¬ c ≤ a) ∨ (c ≤ a ∧ ¬ d ≤ b) := by omega
  obtain ⟨v, hv⟩ : ∃ v, ofS a b c d = v := ⟨_, rfl⟩
  rw [hv]
  rcases key with ⟨k, l⟩ | k | ⟨k, l⟩ <;> rcases key2 with ⟨m, n⟩ | m | ⟨m, n⟩
  · have HV : Hid (v = 0) := Lib.hid (by rw [← hv, ofS_same]; omega)
    clear hv
    go_enter Try.func7, Try.ntmps7
    go_wp2
    go_ret
    exact ⟨by rw [HV.out]; rfl, bAl (bAl hb _) _⟩
  · have HV : Hid (v = 1) := Lib.hid (by rw [← hv, ofS_ahead]; omega)
    clear hv
    go_enter Try.func7, Try.ntmps7
    go_wp2
    go_ret
    exact ⟨by rw [HV.out]; rfl, bAl (bAl hb _) _⟩
  · have HV : Hid (v = 1) := Lib.hid (by rw [← hv, ofS_ahead]; omega)
    clear hv
    go_enter Try.func7, Try.ntmps7
    go_wp2
    go_ret
    exact ⟨by rw [HV.out]; rfl, bAl (bAl hb _) _⟩
  · have HV : Hid (v = 2) := Lib.hid (by rw [← hv, ofS_behind]; omega)
    clear hv
    go_enter Try.func7, Try.ntmps7
    go_wp2
    go_ret
    exact ⟨by rw [HV.out]; rfl, bAl (bAl hb _) _⟩
  · exfalso; omega
  · have HV : Hid (v = 3) := Lib.hid (by rw [← hv]; unfold ofS; rw [if_neg (by omega), if_neg (by omega), if_neg (by omega)])
    clear hv
    go_enter Try.func7, Try.ntmps7
    go_wp2
    go_ret
    exact ⟨by rw [HV.out]; rfl, bAl (bAl hb _) _⟩
  · have HV : Hid (v = 2) := Lib.hid (by rw [← hv, ofS_behind]; omega)
    clear hv
    go_enter Try.func7, Try.ntmps7
    go_wp2
    go_ret
    exact ⟨by rw [HV.out]; rfl, bAl (bAl hb _) _⟩
  · have HV : Hid (v = 3) := Lib.hid (by rw [← hv]; unfold ofS; rw [if_neg (by omega), if_neg (by omega), if_neg (by omega)])
    clear hv
    go_enter Try.func7, Try.ntmps7
    go_wp2
    go_ret
    exact ⟨by rw [HV.out]; rfl, bAl (bAl hb _) _⟩
  · exfalso; omega
set_option maxHeartbeats 4000000 in
theorem tells15_walk (a b c d : Int) (w : World) : Calls Try.prog 3 #[sp a b, sp c d] w fun e w' => e = .returned (.bool true) ∧ Below w.heap.size w w' := by
  have hb : Below w.heap.size w w := Below.refl _ _
  have C1 := Lib.hid (fun W => stMay_any a b W)
  have C2 := Lib.hid (fun W => refMay15_any a b W)
  have C3 := Lib.hid (fun W => stOf_any a b c d W)
  have C4 := Lib.hid (fun W => refOf_any a b c d W)
  generalize ofS a b c d = v at *
  generalize mayS a b = q at *
  have m1 := (At2.new w a b 23).al (.cells #[.int .i64 c, .int .i64 d] 23)
  have m2 := At2.new (w.alloc (.cells #[.int .i64 a, .int .i64 b] 23)) c d 23
  simp at m2
  have hb2 := bAl (bAl hb (.cells #[.int .i64 a, .int .i64 b] 23)) (.cells #[.int .i64 c, .int .i64 d] 23)
  cases q
  all_goals
    go_enter Try.func3, Try.ntmps3
    go_wp2_with fail
    change Code.wp _ _ _ _ ((w.alloc (.cells #[.int .i64 a, .int .i64 b] 23)).alloc (.cells #[.int .i64 c, .int .i64 d] 23))
    generalize (w.alloc (.cells #[.int .i64 a, .int .i64 b] 23)).alloc (.cells #[.int .i64 c, .int .i64 d] 23) = w1 at m1 m2 hb2 ⊢
    have hP : ∀ W', Below w1.heap.size w1 W' → ((W'.cell? ⟨w.heap.size, 0, none⟩ = some (.int .i64 a) ∧ W'.cell? ⟨w.heap.size, 1, none⟩ = some (.int .i64 b) ∧ W'.cell? ⟨w.heap.size + 1, 0, none⟩ = some (.int .i64 c) ∧ W'.cell? ⟨w.heap.size + 1, 1, none⟩ = some (.int .i64 d)) ∧ Below w1.heap.size w1 W') := fun W' k => ⟨⟨(m1.then k).c0, (m1.then k).c1, (m2.then k).c0, (m2.then k).c1⟩, k⟩
    go_region_held3 (fun W' => (W'.cell? ⟨w.heap.size, 0, none⟩ = some (.int .i64 a) ∧ W'.cell? ⟨w.heap.size, 1, none⟩ = some (.int .i64 b) ∧ W'.cell? ⟨w.heap.size + 1, 0, none⟩ = some (.int .i64 c) ∧ W'.cell? ⟨w.heap.size + 1, 1, none⟩ = some (.int .i64 d)) ∧ Below w1.heap.size w1 W')
      (first | with_reducible exact hP _ (Below.refl _ _).drew | with_reducible exact hP _ (keepD (by assumption) k3))
      (first
      | (go_at_call 4; ((with_reducible refine (C1.out _).mono ?_); rintro e w3 ⟨rfl, k3⟩))
      | (go_at_call 5; ((with_reducible refine (C2.out _).mono ?_); rintro e w3 ⟨rfl, k3⟩))
      | (go_at_call 6; ((with_reducible refine (C3.out _).mono ?_); rintro e w3 ⟨rfl, k3⟩))
      | (go_at_call 7; ((with_reducible refine (C4.out _).mono ?_); rintro e w3 ⟨rfl, k3⟩)))
    rename_i hH
    have K2 := bThen hb2 hH.2
    go_wp2_with fail
    go_ret
    exact ⟨by simp, K2⟩
end Go.Proofs.Ythdphdmiafkkgaa.UX
