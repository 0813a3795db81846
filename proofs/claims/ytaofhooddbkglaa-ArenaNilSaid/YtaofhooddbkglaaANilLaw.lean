/-
  WALK: the law ArenaNil.
-/
import Derived.Test.YtaofhooddbkglaaANil
namespace Go.Proofs.Ytaofhooddbkglaa
open Go.RowKit
set_option maxRecDepth 100000
set_option linter.unusedVariables false
set_option linter.unusedSimpArgs false

theorem arZ_0 : arZ[0]? = some (.pointer none) := by kernel_rfl
set_option maxHeartbeats 4000000 in
theorem nil_walk (k : Int) (w : World) : Calls Try.prog 5 #[.int .i64 k] w fun e w' => e = .returned (.bool true) ∧ Below w.heap.size w w' := by
  have hz := zero_ar
  have H2 := Lib.hid (show ∃ w2, w2 = (w.alloc (.cells arZ 51)).alloc (.cells #[.pointer none, ptr w.heap.size] 23) from ⟨_, rfl⟩)
  go_enter Try.func5, Try.ntmps5
  go_wp2
  have m1 := (AtC.new w arZ 51).al (.cells #[.pointer none, ptr w.heap.size] 23)
  have m2 := AtC.newAt (w := w.alloc (.cells arZ 51)) (B := w.heap.size + 1) (C := #[.pointer none, ptr w.heap.size]) (T := 23) (by simp)
  have hb := ((Below.refl w.heap.size w).alloc (Nat.le_refl _) (.cells arZ 51)).alloc (by simp) (.cells #[.pointer none, ptr w.heap.size] 23)
  have M1 := Lib.hid m1
  have M2 := Lib.hid m2
  have HB := Lib.hid hb
  clear m1 m2 hb
  generalize (w.alloc (.cells arZ 51)).alloc (.cells #[.pointer none, ptr w.heap.size] 23) = w2 at *
  go_loopw [5] (fun i wr => ∃ n : Nat, i = .int .i64 n ∧ n ≤ 2 ∧ Below w2.heap.size w2 wr) (fun i _ => 2 - (intOf i).toNat)
  case atStart => exact ⟨0, rfl, by omega, Below.refl _ _⟩
  case round =>
    obtain ⟨n, rfl, hn, hb1⟩ := hrel
    have HB1 := Lib.hid hb1
    by_cases h0 : n < 2
    · obtain ⟨v, HV, HU⟩ : ∃ v, (#[.pointer none, ptr w.heap.size] : Array Value)[n]? = some v ∧ Unm wr v := by
        rcases (show n = 0 ∨ n = 1 by omega) with rfl | rfl
        · exact ⟨_, rfl, .inl rfl⟩
        · exact ⟨_, rfl, .inr ⟨_, rfl, ((M1.out.then hb1).c 0).trans arZ_0, (M1.out.then hb1).lt⟩⟩
      have i1 : (n : Int) < 2 := by omega
      have x0 := ((M2.out.then hb1).c n).trans HV
      have hfar : w.heap.size + 1 < wr.heap.size := (M2.out.then hb1).lt
      have U := Lib.hid HU
      clear HV HU hb1
      go_wp2_with (first
        | (go_at_call 13; ((with_reducible refine (take_no v _ U.out).mono ?_); rintro e w5 ⟨rfl, rfl⟩))
        | (go_at_call 11; ((with_reducible refine (give_no v k _ U.out).mono ?_); rintro e w5 ⟨rfl, rfl⟩))
        | (go_at_call 15; ((with_reducible refine (taken_no v k _ U.out).mono ?_); rintro e w5 ⟨rfl, k5⟩; have U2 := Lib.hid (U.out.then k5); have HB2 := Lib.hid (bThen HB1.out k5); have x1 := (k5.cell (p := ⟨w.heap.size + 1, n, none⟩) hfar).trans x0))
        | (go_at_call 17; ((with_reducible refine (age_no v k _ U2.out).mono ?_); rintro e w5 ⟨rfl, rfl⟩))
        | (go_at_call 21; ((with_reducible refine (size_no v _ U2.out).mono ?_); rintro e w5 ⟨rfl, rfl⟩))
        | (go_at_call 19; ((with_reducible refine (many_no v _ U2.out).mono ?_); rintro e w5 ⟨rfl, rfl⟩))
        | (go_at_call 23; ((with_reducible refine (all_no v _ U2.out).mono ?_); rintro e w5 ⟨rfl, rfl⟩)))
      go_roundw
      case rel => exact ⟨n + 1, by go_num, by omega, HB2.out⟩
      case measure => simp [intOf]; omega
    · have e : n = 2 := by omega
      subst e
      go_wp2_with (go_at_call 25; ((with_reducible refine (copy_no _).mono ?_); rintro e w5 ⟨rfl, rfl⟩))
      go_ret
      exact ⟨rfl, HB.out.trans (HB1.out.mono HB.out.size)⟩
end Go.Proofs.Ytaofhooddbkglaa
