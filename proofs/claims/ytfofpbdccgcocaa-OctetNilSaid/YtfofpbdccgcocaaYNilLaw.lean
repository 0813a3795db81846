/-
  The law OctetNil walked.
-/
import Derived.Test.YtfofpbdccgcocaaYAwake
namespace Go.Proofs.Ytfofpbdccgcocaa.YX
open Go.RowKit HL
open IX (ptr El cellsK cellsK_at cellsK_len OwnK RdK Kept slice_toK slice_fromK)
set_option maxRecDepth 100000
set_option linter.unusedVariables false
set_option linter.unusedSimpArgs false

set_option maxHeartbeats 8000000 in
theorem nil_walk (x : Th) (hx : ThOk x) (w : World) : Calls Try.prog 5 #[th x] w fun e w' => e = .returned (.bool true) ∧ Below w.heap.size w w' := by
  have b1 := bAl (Below.refl w.heap.size w) (.cells (thC x) 32)
  have mA := AtC.new w (thC x) 32
  have c0 := mA.c 0
  have c1 := mA.c 1
  have c2 := mA.c 2
  have mB := (AtC.newAt (w := w.alloc (.cells (thC x) 32)) (B := w.heap.size + 1) (C := thC x) (T := 32) (by simp)).c
  have rT : RdT ((w.alloc (.cells (thC x) 32)).alloc (.cells (thC x) 32)) (w.heap.size + 2) (some ⟨w.heap.size + 1, 0, none⟩) [x] := .inr ⟨w.heap.size + 1, 0, rfl, by omega, fun j y hy => by
    match j, hy with
    | 0, hy => simp at hy; subst hy; exact ⟨mB 0, mB 1, mB 2⟩
    | j + 1, hy => simp at hy⟩
  have CL := Lib.hid (long_any [x] (some ⟨w.heap.size + 1, 0, none⟩) 1 _ _ rT)
  have B2 := Lib.hid (bAl b1 (.cells (thC x) 32))
  have mA2 := mA.al (.cells (thC x) 32)
  have d0 := mA2.c 0
  have d1 := mA2.c 1
  have d2 := mA2.c 2
  simp only [List.length_singleton] at CL
  clear rT mB mA mA2 b1
  cases hl : longB [x] with
  | true =>
    rw [hl] at CL
    go_enter Try.func5, Try.ntmps5
    go_wp2_with (go_at_call 9; ((with_reducible refine CL.out.mono ?_); rintro e w1 ⟨rfl, rfl⟩))
    go_ret
    exact ⟨rfl, B2.out⟩
  | false =>
    have hs := (long_no hl).2 x (by simp)
    rw [hl] at CL
    have CW := Lib.hid (fun (W : World) => write_any (.pointer none) none x hx (by omega) W (.inl rfl))
    have CB := Lib.hid bytes_nil
    have D0 := Lib.hid octet_nil
    have D1 := Lib.hid truth_nil
    have D2 := Lib.hid unsigned_nil
    have D3 := Lib.hid signed_nil
    have D4 := Lib.hid text_nil
    have D5 := Lib.hid left_nil
    have D6 := Lib.hid failed_nil
    have D7 := Lib.hid end_nil
    clear hl hs
    go_enter Try.func5, Try.ntmps5
    go_wp2_with (first
      | (go_at_call 9; ((with_reducible refine CL.out.mono ?_); rintro e w1 ⟨rfl, rfl⟩))
      | (go_at_call 10; ((with_reducible refine (CW.out _).mono ?_); rintro e w2 ⟨rfl, q2, _⟩; have k2 := bThen B2.out (q2 rfl); clear q2))
      | (go_at_call 12; ((with_reducible refine (CB.out _).mono ?_); rintro e w3 ⟨rfl, rfl⟩))
      | (go_at_call 19; ((refine (D0.out _).mono ?_); rintro e w4 ⟨rfl, k4⟩; replace k2 := bThen k2 k4; clear k4))
      | (go_at_call 20; ((refine (D1.out _).mono ?_); rintro e w5 ⟨rfl, k5⟩; replace k2 := bThen k2 k5; clear k5))
      | (go_at_call 21; ((refine (D2.out _).mono ?_); rintro e w6 ⟨rfl, k6⟩; replace k2 := bThen k2 k6; clear k6))
      | (go_at_call 22; ((refine (D3.out _).mono ?_); rintro e w7 ⟨rfl, k7⟩; replace k2 := bThen k2 k7; clear k7))
      | (go_at_call 23; ((refine (D4.out _).mono ?_); rintro e w8 ⟨rfl, k8⟩; replace k2 := bThen k2 k8; clear k8))
      | (go_at_call 16; ((refine (D5.out _).mono ?_); rintro e w9 ⟨rfl, rfl⟩))
      | (go_at_call 15; ((refine (D6.out _).mono ?_); rintro e w10 ⟨rfl, rfl⟩))
      | (go_at_call 17; ((refine (D7.out _).mono ?_); rintro e w11 ⟨rfl, rfl⟩)))
    go_ret
    exact ⟨by first | rfl | simp, k2⟩
end Go.Proofs.Ytfofpbdccgcocaa.YX
